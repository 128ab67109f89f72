/-
  Proved: for every list of terms and every list of binds, the law on ComputeAll answers true (the tested function answers as its model, writes into no argument, and its answer owns its memory), and all that was there reads as it did. No condition.
-/
import Derived.Test.YtbellpalomiokaaJoined2
import Derived.Test.YtbellpalomiokaaJAllS
import Derived.Test.YtbellpalomiokaaJLawExprS
import Derived.Test.YtbellpalomiokaaJLawBind
import Derived.Test.YtbellpalomiokaaJMarkExpr
import Derived.Test.YtbellpalomiokaaJMarkBind
import Derived.Test.YtbellpalomiokaaJMarkRow
import Derived.Test.YtbellpalomiokaaRows
import Derived.ProofKit
import Derived.OpenShut
import Derived.ShutString
import Derived.ChangeOld
import Derived.Below
import Derived.Lib.SmallJoins
import Derived.Deep.RegionHeld3
namespace Go.Proofs.Ytbellpalomiokaa.ExComputeAll
open Go.ChangeShapes Go.WideShapes Go.ChangeAt Go.RowKit Go.Joins
open Go.ChangeMaps (open_string shut_string)
set_option linter.unusedVariables false

set_option maxRecDepth 100000 in
set_option maxHeartbeats 12800000 in
theorem walk (a : Option Addr) (n cap : Nat) (es : List X11) (a2 : Option Addr) (n2 cap2 : Nat) (B : List B4) (w : World) (hv : IsExprs w a n cap es) (hv2 : IsBinds w a2 n2 cap2 B) :
    Calls Try.prog 6 #[.slice a n cap, .slice a2 n2 cap2] w fun e w' => e = .returned (.bool true) ∧ Below w.heap.size w w' := by
  obtain ⟨rfl, hm1, hr1, hs1⟩ := hv
  obtain ⟨rfl, hm2, hr2, hs2⟩ := hv2
  go_enter Try.func6, Try.ntmps6
  go_wp2_with fail
  refine (szExprS_any a cap es 1048576 _ hr1 hs1 hm1 (by omega) (by omega)).mono ?_
  rintro e w1 ⟨⟨r1, rfl, hq1⟩, hB1⟩
  rcases hq1 with rfl | ⟨hq1, hq2, hsm1⟩
  · go_wp2
    go_ret
    exact ⟨rfl, hB1⟩
  have HS1 := hide hsm1
  clear hsm1
  go_wp2_with fail
  refine (szBindS_any a2 cap2 B r1 _ (hr2.below hB1) hs2 hm2 hq1 (by omega)).mono ?_
  rintro e w2 ⟨⟨r2, rfl, hq3⟩, hb2⟩
  have hB2 : Below w.heap.size w w2 := hB1.trans (hb2.mono hB1.size)
  clear hb2 hB1
  rcases hq3 with rfl | ⟨hq3, hq4, hsm2⟩
  · go_wp2
    go_ret
    exact ⟨rfl, hB2⟩
  have HS2 := hide hsm2
  have hz2 := hB2.size
  have hn1 : es.length ≤ 1048576 := by omega
  have hn2 : B.length ≤ 1048576 := by omega
  clear hsm2 hq1 hq2 hq4
  have HLen := hide (allR_len (B := B) (es := es))
  have HI := hide (fun W a c a2 c2 (h1 : RdExpr W a es) (h2 : RdBind W a2 B) => implComputeAll_any a c es a2 c2 B W h1 HS1.out h2 HS2.out (by omega) (by omega))
  have HSp := hide (fun W a c a2 c2 (h1 : RdExpr W a es) (h2 : RdBind W a2 B) => specComputeAll_any a c es a2 c2 B W h1 HS1.out h2 HS2.out (by omega) (by omega))
  generalize allR es B = r at HI HSp HLen
  obtain ⟨R, bb⟩ := r
  have hrl := HLen.out
  simp only at hrl
  have hRn : R.length ≤ 1048576 := by omega
  clear HLen hrl
  have hbb : (bb != bb) = false := by simp
  go_wp2_with fail
  refine (toExprS_ex a cap es _ (hr1.below hB2) hn1).mono ?_
  rintro e w3 ⟨g3, rfl, hg3, oe3, hb3⟩
  have hl3 := oe3.lt
  have hB3 : Below w.heap.size w w3 := hB2.trans (hb3.mono hB2.size)
  have hs3 := hb3.size
  clear  hB2 hb3
  go_wp2_with fail
  refine (toBindS_ex a2 cap2 B _ (hr2.below hB3) hn2).mono ?_
  rintro e w4 ⟨g4, rfl, hg4, ob4, hb4⟩
  have hl4 := ob4.lt
  have oe4 := oe3.later hb4
  have hB4 : Below w.heap.size w w4 := hB3.trans (hb4.mono hB3.size)
  have hs4 := hb4.size
  clear oe3 hB3 hb4
  go_wp2_with fail
  refine (HSp.out _ _ _ _ _ (rdOwnExpr oe4) (rdOwnBind ob4)).mono ?_
  rintro e w5 ⟨v0, rfl, ow5, hb5⟩
  simp only at ow5 ⊢
  obtain ⟨av0, cv0, rfl, -⟩ := rdV_owns ow5
  have hkv0 := fun k hk => World.ownsRow.lt ow5 k hk
  have oe5 := oe4.later hb5
  have ob5 := ob4.later hb5
  have hB5 : Below w.heap.size w w5 := hB4.trans (hb5.mono hB4.size)
  have hs5 := hb5.size
  clear oe4 ob4 hB4 hb5
  clear oe5
  clear ob5
  go_wp2_with fail
  refine (toExprS_ex a cap es _ (hr1.below hB5) hn1).mono ?_
  rintro e w6 ⟨g6, rfl, hg6, ox6, hb6⟩
  have hl6 := ox6.lt
  have ow6 := ownsRow_below ow5 hb6
  have hB6 : Below w.heap.size w w6 := hB5.trans (hb6.mono hB5.size)
  have hs6 := hb6.size
  clear ow5 hB5 hb6
  go_wp2_with fail
  refine (toBindS_ex a2 cap2 B _ (hr2.below hB6) hn2).mono ?_
  rintro e w7 ⟨g7, rfl, hg7, oy7, hb7⟩
  have hl7 := oy7.lt
  have ow7 := ownsRow_below ow6 hb7
  have ox7 := ox6.later hb7
  have hB7 : Below w.heap.size w w7 := hB6.trans (hb7.mono hB6.size)
  have hs7 := hb7.size
  clear ow6 ox6 hB6 hb7
  go_wp2_with fail
  refine (HI.out _ _ _ _ _ (rdOwnExpr ox7) (rdOwnBind oy7)).mono ?_
  rintro e w8 ⟨v1, rfl, og8, hb8⟩
  simp only at og8 ⊢
  obtain ⟨av1, cv1, rfl, -⟩ := rdV_owns og8
  have hkv1 := fun k hk => World.ownsRow.lt og8 k hk
  have ow8 := ownsRow_below ow7 hb8
  have ox8 := ox7.later hb8
  have oy8 := oy7.later hb8
  have hB8 : Below w.heap.size w w8 := hB7.trans (hb8.mono hB7.size)
  have hs8 := hb8.size
  clear ow7 ox7 oy7 hB7 hb8
  go_wp2_with fail
  refine (eqValS_same _ _ _ _ R _ (rdRow og8) (rdRow ow8) (by omega)).mono ?_
  rintro e w9 ⟨rfl, hb9⟩
  have ow9 := ownsRow_below ow8 hb9
  have ox9 := ox8.later hb9
  have oy9 := oy8.later hb9
  have og9 := ownsRow_below og8 hb9
  have hB9 : Below w.heap.size w w9 := hB8.trans (hb9.mono hB8.size)
  have hs9 := hb9.size
  clear ow8 ox8 oy8 og8 hB8 hb9
  go_wp2_with fail
  refine (toExprS_ex a cap es _ (hr1.below hB9) hn1).mono ?_
  rintro e w10 ⟨g10, rfl, hg10, oe10, hb10⟩
  have hl10 := oe10.lt
  have ow10 := ownsRow_below ow9 hb10
  have ox10 := ox9.later hb10
  have oy10 := oy9.later hb10
  have og10 := ownsRow_below og9 hb10
  have hB10 : Below w.heap.size w w10 := hB9.trans (hb10.mono hB9.size)
  have hs10 := hb10.size
  clear ow9 ox9 oy9 og9 hB9 hb10
  go_wp2_with fail
  refine (eqExprS_same _ _ _ _ es _ (rdOwnExpr ox10) (rdOwnExpr oe10) (by omega)).mono ?_
  rintro e w11 ⟨rfl, hb11⟩
  have ow11 := ownsRow_below ow10 hb11
  have ox11 := ox10.later hb11
  have oy11 := oy10.later hb11
  have og11 := ownsRow_below og10 hb11
  have oe11 := oe10.later hb11
  have hB11 : Below w.heap.size w w11 := hB10.trans (hb11.mono hB10.size)
  have hs11 := hb11.size
  clear ow10 ox10 oy10 og10 oe10 hB10 hb11
  clear oe11
  go_wp2_with fail
  refine (toBindS_ex a2 cap2 B _ (hr2.below hB11) hn2).mono ?_
  rintro e w12 ⟨g12, rfl, hg12, ob12, hb12⟩
  have hl12 := ob12.lt
  have ow12 := ownsRow_below ow11 hb12
  have ox12 := ox11.later hb12
  have oy12 := oy11.later hb12
  have og12 := ownsRow_below og11 hb12
  have hB12 : Below w.heap.size w w12 := hB11.trans (hb12.mono hB11.size)
  have hs12 := hb12.size
  clear ow11 ox11 oy11 og11 hB11 hb12
  go_wp2_with fail
  refine (eqBindS_same _ _ _ _ B _ (rdOwnBind oy12) (rdOwnBind ob12) (by omega)).mono ?_
  rintro e w13 ⟨rfl, hb13⟩
  have ow13 := ownsRow_below ow12 hb13
  have ox13 := ox12.later hb13
  have oy13 := oy12.later hb13
  have og13 := ownsRow_below og12 hb13
  have ob13 := ob12.later hb13
  have hB13 : Below w.heap.size w w13 := hB12.trans (hb13.mono hB12.size)
  have hs13 := hb13.size
  clear ow12 ox12 oy12 og12 ob12 hB12 hb13
  clear ob13
  go_wp2_with fail
  refine (markExprS_any g6 _ 1 es _ ox13 (by omega) (by omega)).mono ?_
  rintro e w14 ⟨rfl, -, gr14⟩
  have ow14 := World.ownsRow.kept ow13 gr14 (.inr (fun hh => by have := hkv0 _ hh; omega))
  have oy14 := oy13.grown gr14 (by omega)
  have og14 := World.ownsRow.kept og13 gr14 (.inr (fun hh => by have := hkv1 _ hh; omega))
  have hB14 : Below w.heap.size w w14 := hB13.grown gr14 hB13.size (fun k hk => by cases hk; omega)
  have hs14 := gr14.size
  clear ow13 ox13 oy13 og13 hB13 gr14
  obtain ⟨k14, hk14⟩ : ∃ k : Nat, k = 1 + 11 * es.length := ⟨_, rfl⟩
  rw [← hk14]
  have hk14' : k14 ≤ 33554500 := by omega
  clear hk14
  go_wp2_with fail
  refine (markBindS_any g7 _ k14 B _ oy14 (by omega) hk14').mono ?_
  rintro e w15 ⟨rfl, -, gr15⟩
  have ow15 := World.ownsRow.kept ow14 gr15 (.inr (fun hh => by have := hkv0 _ hh; omega))
  have og15 := World.ownsRow.kept og14 gr15 (.inr (fun hh => by have := hkv1 _ hh; omega))
  have hB15 : Below w.heap.size w w15 := hB14.grown gr15 hB14.size (fun k hk => by cases hk; omega)
  have hs15 := gr15.size
  clear ow14 oy14 og14 hB14 gr15
  obtain ⟨k15, hk15⟩ : ∃ k : Nat, k = k14 + 4 * B.length := ⟨_, rfl⟩
  rw [← hk15]
  have hn15 : ¬ ((k15 : Int) < 0) := by omega
  clear hk15
  go_wp2_with fail
  refine (eqValS_same _ _ _ _ R _ (rdRow og15) (rdRow ow15) (by omega)).mono ?_
  rintro e w16 ⟨rfl, hb16⟩
  have ow16 := ownsRow_below ow15 hb16
  have og16 := ownsRow_below og15 hb16
  have hB16 : Below w.heap.size w w16 := hB15.trans (hb16.mono hB15.size)
  have hs16 := hb16.size
  clear ow15 og15 hB15 hb16
  go_wp2_with fail
  refine (markRow_any _ _ R _ og16 (by omega)).mono ?_
  rintro e w17 ⟨rfl, om17, gr17⟩
  have hkw := fun k (h1 : (Value.slice av1 R.length cv1).ownBlock = some k) (h2 : (Value.slice av0 R.length cv0).ownBlock = some k) => (show False by have := hkv1 _ h1; have := hkv0 _ h2; omega)
  have ow17 : w17.ownsRow _ _ _ _ _ _ := World.ownsRow.kept ow16 gr17 (by
    cases hq : (Value.slice av0 R.length cv0).ownBlock with
    | none => exact .inl rfl
    | some k => exact .inr (fun hh => hkw k hh.symm hq))
  have hB17 : Below w.heap.size w w17 := hB16.grown gr17 hB16.size (fun k hk => by have := hkv1 _ hk; omega)
  have hs17 := gr17.size
  clear og16 ow16 hB16 gr17 hkw
  obtain ⟨q, hq⟩ : ∃ q : Nat, q = 1 + 3 * R.length := ⟨_, rfl⟩
  rw [← hq]
  have HQ := hide hq
  clear hq
  have hq1 : ¬ ((q : Int) < 0) := by omega
  have hq2 : ((q : Int) != (q : Int)) = false := by simp
  go_wp2_with fail
  refine (heldValS_any _ _ 1 R.length _ (rdRow om17) (by omega) (by omega)).mono ?_
  rintro e w18 ⟨rfl, hb18⟩
  rw [← HQ.out]
  have ow18 := ownsRow_below ow17 hb18
  have om18 := ownsRow_below om17 hb18
  have hB18 : Below w.heap.size w w18 := hB17.trans (hb18.mono hB17.size)
  have hs18 := hb18.size
  clear ow17 om17 hB17 hb18
  go_wp2_with fail
  refine (toExprS_ex a cap es _ (hr1.below hB18) hn1).mono ?_
  rintro e w19 ⟨g19, rfl, hg19, oe19, hb19⟩
  have hl19 := oe19.lt
  have ow19 := ownsRow_below ow18 hb19
  have om19 := ownsRow_below om18 hb19
  have hB19 : Below w.heap.size w w19 := hB18.trans (hb19.mono hB18.size)
  have hs19 := hb19.size
  clear ow18 om18 hB18 hb19
  go_wp2_with fail
  refine (toBindS_ex a2 cap2 B _ (hr2.below hB19) hn2).mono ?_
  rintro e w20 ⟨g20, rfl, hg20, ob20, hb20⟩
  have hl20 := ob20.lt
  have ow20 := ownsRow_below ow19 hb20
  have om20 := ownsRow_below om19 hb20
  have oe20 := oe19.later hb20
  have hB20 : Below w.heap.size w w20 := hB19.trans (hb20.mono hB19.size)
  have hs20 := hb20.size
  clear ow19 om19 oe19 hB19 hb20
  go_wp2_with fail
  refine (HI.out _ _ _ _ _ (rdOwnExpr oe20) (rdOwnBind ob20)).mono ?_
  rintro e w21 ⟨v2, rfl, oh21, hb21⟩
  simp only at oh21 ⊢
  obtain ⟨av2, cv2, rfl, -⟩ := rdV_owns oh21
  have hkv2 := fun k hk => World.ownsRow.lt oh21 k hk
  have ow21 := ownsRow_below ow20 hb21
  have om21 := ownsRow_below om20 hb21
  have oe21 := oe20.later hb21
  have ob21 := ob20.later hb21
  have hB21 : Below w.heap.size w w21 := hB20.trans (hb21.mono hB20.size)
  have hs21 := hb21.size
  clear ow20 om20 oe20 ob20 hB20 hb21
  clear oe21
  clear ob21
  go_wp2_with fail
  refine (eqValS_same _ _ _ _ R _ (rdRow oh21) (rdRow ow21) (by omega)).mono ?_
  rintro e w22 ⟨rfl, hb22⟩
  have ow22 := ownsRow_below ow21 hb22
  have om22 := ownsRow_below om21 hb22
  have oh22 := ownsRow_below oh21 hb22
  have hB22 : Below w.heap.size w w22 := hB21.trans (hb22.mono hB21.size)
  have hs22 := hb22.size
  clear ow21 om21 oh21 hB21 hb22
  go_wp2_with fail
  refine (heldValS_any _ _ 1 R.length _ (rdRow om22) (by omega) (by omega)).mono ?_
  rintro e w23 ⟨rfl, hb23⟩
  have hB23 : Below w.heap.size w w23 := hB22.trans (hb23.mono hB22.size)
  rw [← HQ.out]
  clear hb23 hB22 om22 ow22 oh22
  go_wp2
  go_ret
  exact ⟨rfl, hB23⟩

theorem own : ownKnob Try.prog.godebug = none := by kernel_rfl
theorem laidOut : laidOutB Try.prog = true := by kernel_rfl

set_option maxRecDepth 100000 in
theorem lifted (os : Os) (started : os.Started) (H : Type) (enc : TypeId × Value → H) :
    ReturnsInHanded {} Try.checked os 6 .any (Rows.fnExactComputeAllSpec.pre6 enc Try.prog Try.f6 Rows.fnExactComputeAllRow.domain false) (Rows.fnExactComputeAllSpec.post enc Try.prog Try.f6 false true false false) := by
  refine returnsInHanded_of_change (C := Try.checked) own started (by kernel_rfl) Try.func6
    (ChangeSpec.witness6 (enc := enc) (C := Try.checked) false ⟨#[], #[.slice none 0 0, .slice none 0 0], []⟩ 8 (by kernel_rfl) (by kernel_rfl) (by kernel_rfl) (by kernel_rfl)) ?_
  intro W base args ds gs before hval0 hW hcnd _
  have hval : ∀ (j : Nat) t v, Try.f6.params[j]? = some t → args[j]? = some v → Value.okWide Try.prog W .any base t v := hval0
  have hW' := hW
  obtain ⟨p, q, hA0, hV, rfl, hfz, hnd⟩ := hW
  have hA : DataW.TrodAll enc Try.prog W 0 (fun _ => true) true Try.f6.params.toList args.toList ds p := hA0
  rw [Try.params6] at hA hval
  obtain ⟨v0, vs0, d0, ds0, p0, q0, hargs, rfl, rfl, h0, r0⟩ := trodAll_cons hA
  obtain ⟨v1, vs1, d1, ds1, p1, q1, rfl, rfl, rfl, h1, r1⟩ := trodAll_cons r0
  obtain ⟨rfl, rfl, rfl⟩ := trodAll_nil r1
  obtain rfl : args = #[v0, v1] := by cases args; simp_all
  obtain ⟨rfl, rfl⟩ := trodVars_none hV
  obtain ⟨a0, len0, cap0, rfl⟩ := okWide_slice Try.underlying46 (hval 0 46 v0 rfl rfl)
  have k0 := h0
  have lt0 : ∀ x ∈ p0, x.block < W.heap.size := by obtain ⟨m, hm⟩ := k0; exact DataW.trod_lt m _ _ _ hm
  obtain ⟨b0, m0, c0, L0, e0, w0⟩ : ∃ a len cap L, Value.slice a0 len0 cap0 = .slice a len cap ∧ IsExprs W a len cap L := by
    obtain ⟨fuel, hf⟩ := h0
    exact exprs_in hf
  rw [e0] at hW' ⊢
  obtain ⟨a1, len1, cap1, rfl⟩ := okWide_slice Try.underlying37 (hval 1 37 v1 rfl rfl)
  have k1 := h1
  have lt1 : ∀ x ∈ p1, x.block < W.heap.size := by obtain ⟨m, hm⟩ := k1; exact DataW.trod_lt m _ _ _ hm
  obtain ⟨b1, m1, c1, L1, e1, w1⟩ : ∃ a len cap L, Value.slice a1 len1 cap1 = .slice a len cap ∧ IsBinds W a len cap L := by
    obtain ⟨fuel, hf⟩ := h1
    exact binds_in hf
  rw [e1] at hW' ⊢
  clear hA0 hval0
  refine (walk b0 m0 c0 L0 b1 m1 c1 L1 W w0 w1).mono fun e W' ⟨he, bel⟩ => ?_
  subst he
  exact ⟨_, rfl, _, _, _, [], _, [], hW', trodAll_mk1 (shut_bool Try.underlying4 _), (trodAll_cons_mk (by rw [← e0]; exact Below.trod laidOut (by kernel_rfl) (of_decide_eq_true (by kernel_rfl)) k0 bel lt0) (trodAll_cons_mk (by rw [← e1]; exact Below.trod laidOut (by kernel_rfl) (of_decide_eq_true (by kernel_rfl)) k1 bel lt1) trodAll_mk0)), rfl, bel.frame _, fun h => by cases h⟩

theorem over : Rows.fnExactComputeAllRow.holds Try.pinned (OpenSpec.ofChange Rows.fnExactComputeAllSpec) :=
  OpenClaim.holds_of_wide 6 Try.f6 rfl rfl rfl rfl rfl rfl rfl ⟨rfl, rfl, rfl, rfl, rfl⟩ rfl rfl rfl rfl rfl (by kernel_rfl) Try.func6 (by kernel_rfl)
    (of_decide_eq_true (by kernel_rfl)) (by unfold Func.isWrapper; first | (rw [if_pos (by decide +kernel)]; kernel_rfl) | (rw [if_neg (by decide +kernel)]; exact ⟨rfl, rfl⟩))
    (fun os started H enc _ => lifted os started H enc)
end Go.Proofs.Ytbellpalomiokaa.ExComputeAll
namespace Go.Proofs.Ytbellpalomiokaa
theorem fnExactComputeAll_holds : Rows.FnExactComputeAllSaid := ExComputeAll.over
#print axioms fnExactComputeAll_holds
end Go.Proofs.Ytbellpalomiokaa
