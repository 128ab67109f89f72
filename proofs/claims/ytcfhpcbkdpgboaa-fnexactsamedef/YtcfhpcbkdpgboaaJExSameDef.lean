/-
  Proved: for every two definitions, the law on SameDef answers true (the tested function answers as its model, and writes into no argument), and both definitions read as they did. No condition.
-/
import Derived.Test.YtcfhpcbkdpgboaaJSameDI
import Derived.Test.YtcfhpcbkdpgboaaJSameDS
import Derived.Test.YtcfhpcbkdpgboaaJKeepDf
import Derived.Test.YtcfhpcbkdpgboaaRows
import Derived.ProofKit
import Derived.OpenShut
import Derived.ShutString
import Derived.ChangeOld
import Derived.Below
import Derived.Lib.SmallJoins
import Derived.Deep.RegionHeld3
namespace Go.Proofs.Ytcfhpcbkdpgboaa.ExSameDef
open Go.ChangeShapes Go.WideShapes Go.ChangeAt Go.RowKit Go.Joins
open Go.ChangeMaps (open_string shut_string)
set_option linter.unusedVariables false

def FourDf (w0 : World) (B : Nat) (x y u v : DE) (W : World) : Prop := TwoDf w0 B x y W ∧ RdDef W u ∧ RdDef W v
theorem FourDf.drew {w0 W : World} {B : Nat} {x y u v : DE} (h : FourDf w0 B x y u v W) : FourDf w0 B x y u v W.drew := ⟨h.1.drew, h.2.1.heap rfl, h.2.2.heap rfl⟩
theorem keep8 {w0 W w' : World} {B : Nat} {p0 p1 p2 p3 p4 p5 p6 p7 : Addr} {v0 v1 v2 v3 v4 v5 v6 v7 : Value} {x y u v : DE} (hb : Below W.heap.size W w') (h : W.cell? p0 = some v0 ∧ W.cell? p1 = some v1 ∧ W.cell? p2 = some v2 ∧ W.cell? p3 = some v3 ∧ W.cell? p4 = some v4 ∧ W.cell? p5 = some v5 ∧ W.cell? p6 = some v6 ∧ W.cell? p7 = some v7 ∧ FourDf w0 B x y u v W) : w'.cell? p0 = some v0 ∧ w'.cell? p1 = some v1 ∧ w'.cell? p2 = some v2 ∧ w'.cell? p3 = some v3 ∧ w'.cell? p4 = some v4 ∧ w'.cell? p5 = some v5 ∧ w'.cell? p6 = some v6 ∧ w'.cell? p7 = some v7 ∧ FourDf w0 B x y u v w' := by
  obtain ⟨h0, h1, h2, h3, h4, h5, h6, h7, h8⟩ := h
  have k : ∀ {a : Addr} {v : Value}, W.cell? a = some v → w'.cell? a = some v := fun {a v} h => by rw [hb.cell (World.block_lt_of_cell? W _ h)]; exact h
  exact ⟨k h0, k h1, k h2, k h3, k h4, k h5, k h6, k h7, h8.1.keep hb, h8.2.1.below hb, h8.2.2.below hb⟩
theorem rd1 {w0 W : World} {B : Nat} {p0 p1 p2 p3 p4 p5 p6 p7 : Addr} {v0 v1 v2 v3 v4 v5 v6 v7 : Value} {x y u v : DE} (h : W.cell? p0 = some v0 ∧ W.cell? p1 = some v1 ∧ W.cell? p2 = some v2 ∧ W.cell? p3 = some v3 ∧ W.cell? p4 = some v4 ∧ W.cell? p5 = some v5 ∧ W.cell? p6 = some v6 ∧ W.cell? p7 = some v7 ∧ FourDf w0 B x y u v W) : RdDef W x := h.2.2.2.2.2.2.2.2.1.1
theorem rd2 {w0 W : World} {B : Nat} {p0 p1 p2 p3 p4 p5 p6 p7 : Addr} {v0 v1 v2 v3 v4 v5 v6 v7 : Value} {x y u v : DE} (h : W.cell? p0 = some v0 ∧ W.cell? p1 = some v1 ∧ W.cell? p2 = some v2 ∧ W.cell? p3 = some v3 ∧ W.cell? p4 = some v4 ∧ W.cell? p5 = some v5 ∧ W.cell? p6 = some v6 ∧ W.cell? p7 = some v7 ∧ FourDf w0 B x y u v W) : RdDef W y := h.2.2.2.2.2.2.2.2.1.2.1
theorem rd3 {w0 W : World} {B : Nat} {p0 p1 p2 p3 p4 p5 p6 p7 : Addr} {v0 v1 v2 v3 v4 v5 v6 v7 : Value} {x y u v : DE} (h : W.cell? p0 = some v0 ∧ W.cell? p1 = some v1 ∧ W.cell? p2 = some v2 ∧ W.cell? p3 = some v3 ∧ W.cell? p4 = some v4 ∧ W.cell? p5 = some v5 ∧ W.cell? p6 = some v6 ∧ W.cell? p7 = some v7 ∧ FourDf w0 B x y u v W) : RdDef W u := h.2.2.2.2.2.2.2.2.2.1
theorem rd4 {w0 W : World} {B : Nat} {p0 p1 p2 p3 p4 p5 p6 p7 : Addr} {v0 v1 v2 v3 v4 v5 v6 v7 : Value} {x y u v : DE} (h : W.cell? p0 = some v0 ∧ W.cell? p1 = some v1 ∧ W.cell? p2 = some v2 ∧ W.cell? p3 = some v3 ∧ W.cell? p4 = some v4 ∧ W.cell? p5 = some v5 ∧ W.cell? p6 = some v6 ∧ W.cell? p7 = some v7 ∧ FourDf w0 B x y u v W) : RdDef W v := h.2.2.2.2.2.2.2.2.2.2

set_option maxRecDepth 100000 in
set_option maxHeartbeats 6400000 in
theorem walk (x0 y0 : DE) (w : World) (hr : RdDef w x0) (hs : x0.ok) (hr' : RdDef w y0) (hs' : y0.ok) :
    Calls Try.prog 4 #[.agg #[.string x0.nm, .slice x0.aR x0.nR x0.cR], .agg #[.string y0.nm, .slice y0.aR y0.nR y0.cR]] w fun e w' => e = .returned (.bool true) ∧ Below w.heap.size w w' := by
  obtain ⟨dn, aR, n, cR, R⟩ := x0
  obtain ⟨dn', aR', n', cR', R'⟩ := y0
  show Calls Try.prog 4 #[.agg #[.string dn, .slice aR n cR], .agg #[.string dn', .slice aR' n' cR']] w fun e w' => e = .returned (.bool true) ∧ Below w.heap.size w w'
  obtain ⟨hX, hY, b1⟩ := boxes2 w #[.string dn, .slice aR n cR] #[.string dn', .slice aR' n' cR'] 24 24
  have S1 : ((w.alloc (.cells #[.string dn, .slice aR n cR] 24)).alloc (.cells #[.string dn', .slice aR' n' cR'] 24)).cell? ⟨w.heap.size, 0, none⟩ = some (.string dn) ∧ ((w.alloc (.cells #[.string dn, .slice aR n cR] 24)).alloc (.cells #[.string dn', .slice aR' n' cR'] 24)).cell? ⟨w.heap.size, 1, none⟩ = some (.slice aR n cR) ∧ ((w.alloc (.cells #[.string dn, .slice aR n cR] 24)).alloc (.cells #[.string dn', .slice aR' n' cR'] 24)).cell? ⟨w.heap.size + 1, 0, none⟩ = some (.string dn') ∧ ((w.alloc (.cells #[.string dn, .slice aR n cR] 24)).alloc (.cells #[.string dn', .slice aR' n' cR'] 24)).cell? ⟨w.heap.size + 1, 1, none⟩ = some (.slice aR' n' cR') ∧ TwoDf w w.heap.size (⟨dn, aR, n, cR, R⟩ : DE) (⟨dn', aR', n', cR', R'⟩ : DE) ((w.alloc (.cells #[.string dn, .slice aR n cR] 24)).alloc (.cells #[.string dn', .slice aR' n' cR'] 24)) := ⟨boxk_cell hX 0 _ rfl, boxk_cell hX 1 _ rfl, boxk_cell hY 0 _ rfl, boxk_cell hY 1 _ rfl, hr.below b1, hr'.below b1, b1, b1.size⟩
  clear hX hY b1 hr hr'
  go_enter Try.func4, Try.ntmps4
  go_wp2_with fail
  generalize (w.alloc (.cells #[.string dn, .slice aR n cR] 24)).alloc (.cells #[.string dn', .slice aR' n' cR'] 24) = w1 at S1 ⊢
  refine (szDef_any (⟨dn, aR, n, cR, R⟩ : DE) 1048576 _ (rdDA S1) hs (by omega) (by omega)).mono ?_
  rintro e w2 ⟨⟨r, rfl, hr1⟩, hb2⟩
  have S2 := keepDf hb2 S1
  clear hb2 S1
  rcases hr1 with rfl | ⟨hr2, hr3, hsm⟩
  · go_wp2
    go_ret
    exact ⟨rfl, S2.2.2.2.2.2.2.1⟩
  have hrm : r ≤ 1048576 := by omega
  have HSm := hide hsm
  clear hr3 hsm
  obtain ⟨x0, x1, y0, y1, -⟩ := id S2
  go_wp2_with fail
  refine (szDef_any (⟨dn', aR', n', cR', R'⟩ : DE) r _ (rdDB S2) hs' hr2 hrm).mono ?_
  rintro e w3 ⟨⟨r', rfl, hr1'⟩, hb3⟩
  have S3 := keepDf hb3 S2
  clear hb3 S2 x0 x1 y0 y1
  rcases hr1' with rfl | ⟨hr2', hr3', hsm'⟩
  · go_wp2
    go_ret
    exact ⟨rfl, S3.2.2.2.2.2.2.1⟩
  have HSm' := hide hsm'
  clear hr3' hr2 hrm hsm'
  obtain ⟨x0, x1, y0, y1, T3⟩ := id S3
  clear S3
  go_wp2_with fail
  go_region_held3 (fun W => W.cell? ⟨w.heap.size, 0, none⟩ = some (.string dn) ∧ W.cell? ⟨w.heap.size, 1, none⟩ = some (.slice aR n cR) ∧ W.cell? ⟨w.heap.size + 1, 0, none⟩ = some (.string dn') ∧ W.cell? ⟨w.heap.size + 1, 1, none⟩ = some (.slice aR' n' cR') ∧ TwoDf w w.heap.size (⟨dn, aR, n, cR, R⟩ : DE) (⟨dn', aR', n', cR', R'⟩ : DE) W) (first | exact ⟨x0, x1, y0, y1, T3.drew⟩ | exact keepDf (by assumption) (by assumption))
    (first | (go_at_call_of 8 dn; refine (toDef_any (⟨dn, aR, n, cR, R⟩ : DE) _ (rdDA (by assumption)) HSm.out).mono ?_; rintro e w4 ⟨u4, rfl, o4, e4, hb4⟩) | (go_at_call_of 8 dn'; refine (toDef_any (⟨dn', aR', n', cR', R'⟩ : DE) _ (rdDB (by assumption)) HSm'.out).mono ?_; rintro e w5 ⟨u5, rfl, o5, e5, hb5⟩) | (go_at_call 11; refine (specSameDef_any u4 u5 _ (o4.later hb5).rd o5.rd (DE.small_of HSm.out e4) (DE.small_of HSm'.out e5)).mono ?_; rintro e w6 ⟨⟨t, rfl, ht⟩, hb6⟩))
  have S6 : w6.cell? ⟨w.heap.size, 0, none⟩ = some (.string dn) ∧ w6.cell? ⟨w.heap.size, 1, none⟩ = some (.slice aR n cR) ∧ w6.cell? ⟨w.heap.size + 1, 0, none⟩ = some (.string dn') ∧ w6.cell? ⟨w.heap.size + 1, 1, none⟩ = some (.slice aR' n' cR') ∧ TwoDf w w.heap.size (⟨dn, aR, n, cR, R⟩ : DE) (⟨dn', aR', n', cR', R'⟩ : DE) w6 := by assumption
  have HT : Hid (t = true ↔ (⟨dn, aR, n, cR, R⟩ : DE).pl = (⟨dn', aR', n', cR', R'⟩ : DE).pl) := by unfold Hid; rw [ht, e4, e5]
  clear o4 o5 hb4 hb5 hb6 x0 x1 y0 y1 T3 e4 e5 ht
  obtain ⟨x0, x1, y0, y1, -⟩ := id S6
  go_wp2_with fail
  refine (toDef_any (⟨dn, aR, n, cR, R⟩ : DE) _ (rdDA S6) HSm.out).mono ?_
  rintro e w7 ⟨u, rfl, o7, e7, hb7⟩
  have S7 := keepDf hb7 S6
  clear hb7 S6 x0 x1 y0 y1
  have b8 := below_al w7 (.cells #[.string u.nm, .slice u.aR u.nR u.cR] 29)
  have S8 := keepDf b8 S7
  have o8 := o7.later b8
  have HX8 := hide (boxk_new w7 #[.string u.nm, .slice u.aR u.nR u.cR] 29)
  obtain ⟨x0, x1, y0, y1, -⟩ := id S8
  go_wp2_with fail
  refine (toDef_any (⟨dn', aR', n', cR', R'⟩ : DE) _ (rdDB S8) HSm'.out).mono ?_
  rintro e w9 ⟨v, rfl, o9, e9, hb9⟩
  have S9 := keepDf hb9 S8
  have HX9 := hide (box_step HX8.out hb9)
  have p9 := o8.later hb9
  clear hb9 S8 HX8 o8 o7 S7 b8 x0 x1 y0 y1
  have b10 := below_al w9 (.cells #[.string v.nm, .slice v.aR v.nR v.cR] 29)
  have S10 := keepDf b10 S9
  have o10 := o9.later b10
  have p10 := p9.later b10
  have HX10 := hide (box_step HX9.out b10)
  have HY10 := hide (boxk_new w9 #[.string v.nm, .slice v.aR v.nR v.cR] 29)
  have HE7 := hide e7
  have HE9 := hide e9
  have HSu := hide (DE.small_of HSm.out e7)
  have HSv := hide (DE.small_of HSm'.out e9)
  clear S9 o9 p9 HX9 b10 e7 e9
  have u0 := boxk_cell HX10.out 0 _ rfl
  have u1 := boxk_cell HX10.out 1 _ rfl
  have t0 := boxk_cell HY10.out 0 _ rfl
  have t1 := boxk_cell HY10.out 1 _ rfl
  go_wp2_with fail
  refine (implSameDef_any u v _ p10.rd o10.rd HSu.out HSv.out).mono ?_
  rintro e w11 ⟨⟨t', rfl, ht'⟩, hb11⟩
  have S11 := keepDf hb11 S10
  have HX11 := hide (box_step HX10.out hb11)
  have HY11 := hide (box_step HY10.out hb11)
  have p11 := p10.later hb11
  have o11 := o10.later hb11
  clear hb11 S10 HX10 HY10 p10 o10 u0 u1 t0 t1
  obtain rfl : t' = t := by rw [Bool.eq_iff_iff, HT.out, ht', HE7.out, HE9.out]
  have hbb : (t' != t') = false := by simp
  clear ht' HT
  obtain ⟨x0, x1, y0, y1, T11⟩ := id S11
  have u0 := boxk_cell HX11.out 0 _ rfl
  have u1 := boxk_cell HX11.out 1 _ rfl
  have t0 := boxk_cell HY11.out 0 _ rfl
  have t1 := boxk_cell HY11.out 1 _ rfl
  clear S11 HX11 HY11
  obtain ⟨X, HXq⟩ : ∃ X, Hid (w7.heap.size = X) := ⟨_, rfl⟩
  obtain ⟨Y, HYq⟩ : ∃ Y, Hid (w9.heap.size = Y) := ⟨_, rfl⟩
  rw [HXq.out] at u0 u1 ⊢
  rw [HYq.out] at t0 t1 ⊢
  have E11 : FourDf w w.heap.size (⟨dn, aR, n, cR, R⟩ : DE) (⟨dn', aR', n', cR', R'⟩ : DE) u v w11 := ⟨T11, p11.rd, o11.rd⟩
  clear T11 p11 o11 HXq HYq
  go_wp2_with fail
  go_region_held3 (fun W => W.cell? ⟨w.heap.size, 0, none⟩ = some (.string dn) ∧ W.cell? ⟨w.heap.size, 1, none⟩ = some (.slice aR n cR) ∧ W.cell? ⟨w.heap.size + 1, 0, none⟩ = some (.string dn') ∧ W.cell? ⟨w.heap.size + 1, 1, none⟩ = some (.slice aR' n' cR') ∧ W.cell? ⟨X, 0, none⟩ = some (.string u.nm) ∧ W.cell? ⟨X, 1, none⟩ = some (.slice u.aR u.nR u.cR) ∧ W.cell? ⟨Y, 0, none⟩ = some (.string v.nm) ∧ W.cell? ⟨Y, 1, none⟩ = some (.slice v.aR v.nR v.cR) ∧ FourDf w w.heap.size (⟨dn, aR, n, cR, R⟩ : DE) (⟨dn', aR', n', cR', R'⟩ : DE) u v W) (first | exact ⟨x0, x1, y0, y1, u0, u1, t0, t1, E11.drew⟩ | exact keep8 (by assumption) (by assumption))
    (first | (go_at_call 8; refine (toDef_any (⟨dn, aR, n, cR, R⟩ : DE) _ (rd1 (by assumption)) HSm.out).mono ?_; rintro e w12 ⟨u12, rfl, o12, e12, hb12⟩) | (go_at_call 10; refine (eqDef_same u u12 _ (rd3 (by assumption)) o12.rd (HE7.out.trans e12.symm) HSu.out).mono ?_; rintro e w13 ⟨rfl, hb13⟩))
  have S13 : w13.cell? ⟨w.heap.size, 0, none⟩ = some (.string dn) ∧ w13.cell? ⟨w.heap.size, 1, none⟩ = some (.slice aR n cR) ∧ w13.cell? ⟨w.heap.size + 1, 0, none⟩ = some (.string dn') ∧ w13.cell? ⟨w.heap.size + 1, 1, none⟩ = some (.slice aR' n' cR') ∧ w13.cell? ⟨X, 0, none⟩ = some (.string u.nm) ∧ w13.cell? ⟨X, 1, none⟩ = some (.slice u.aR u.nR u.cR) ∧ w13.cell? ⟨Y, 0, none⟩ = some (.string v.nm) ∧ w13.cell? ⟨Y, 1, none⟩ = some (.slice v.aR v.nR v.cR) ∧ FourDf w w.heap.size (⟨dn, aR, n, cR, R⟩ : DE) (⟨dn', aR', n', cR', R'⟩ : DE) u v w13 := by assumption
  clear x0 x1 y0 y1 u0 u1 t0 t1 E11 o12 hb12 hb13 e12
  obtain ⟨x0, x1, y0, y1, u0, u1, t0, t1, E13⟩ := id S13
  clear S13
  go_wp2_with fail
  go_region_held3 (fun W => W.cell? ⟨w.heap.size, 0, none⟩ = some (.string dn) ∧ W.cell? ⟨w.heap.size, 1, none⟩ = some (.slice aR n cR) ∧ W.cell? ⟨w.heap.size + 1, 0, none⟩ = some (.string dn') ∧ W.cell? ⟨w.heap.size + 1, 1, none⟩ = some (.slice aR' n' cR') ∧ W.cell? ⟨X, 0, none⟩ = some (.string u.nm) ∧ W.cell? ⟨X, 1, none⟩ = some (.slice u.aR u.nR u.cR) ∧ W.cell? ⟨Y, 0, none⟩ = some (.string v.nm) ∧ W.cell? ⟨Y, 1, none⟩ = some (.slice v.aR v.nR v.cR) ∧ FourDf w w.heap.size (⟨dn, aR, n, cR, R⟩ : DE) (⟨dn', aR', n', cR', R'⟩ : DE) u v W) (first | exact ⟨x0, x1, y0, y1, u0, u1, t0, t1, E13.drew⟩ | exact keep8 (by assumption) (by assumption))
    (first | (go_at_call 8; refine (toDef_any (⟨dn', aR', n', cR', R'⟩ : DE) _ (rd2 (by assumption)) HSm'.out).mono ?_; rintro e w14 ⟨u14, rfl, o14, e14, hb14⟩) | (go_at_call 10; refine (eqDef_same v u14 _ (rd4 (by assumption)) o14.rd (HE9.out.trans e14.symm) HSv.out).mono ?_; rintro e w15 ⟨rfl, hb15⟩))
  obtain ⟨-, -, -, -, -, -, -, -, E15⟩ : w15.cell? ⟨w.heap.size, 0, none⟩ = some (.string dn) ∧ w15.cell? ⟨w.heap.size, 1, none⟩ = some (.slice aR n cR) ∧ w15.cell? ⟨w.heap.size + 1, 0, none⟩ = some (.string dn') ∧ w15.cell? ⟨w.heap.size + 1, 1, none⟩ = some (.slice aR' n' cR') ∧ w15.cell? ⟨X, 0, none⟩ = some (.string u.nm) ∧ w15.cell? ⟨X, 1, none⟩ = some (.slice u.aR u.nR u.cR) ∧ w15.cell? ⟨Y, 0, none⟩ = some (.string v.nm) ∧ w15.cell? ⟨Y, 1, none⟩ = some (.slice v.aR v.nR v.cR) ∧ FourDf w w.heap.size (⟨dn, aR, n, cR, R⟩ : DE) (⟨dn', aR', n', cR', R'⟩ : DE) u v w15 := by assumption
  go_wp2
  go_ret
  exact ⟨rfl, E15.1.2.2.1⟩

theorem own : ownKnob Try.prog.godebug = none := by kernel_rfl
theorem laidOut : laidOutB Try.prog = true := by kernel_rfl

set_option maxRecDepth 100000 in
theorem lifted (os : Os) (started : os.Started) (H : Type) (enc : TypeId × Value → H) :
    ReturnsInHanded {} Try.checked os 4 .any (Rows.fnExactSameDefSpec.pre6 enc Try.prog Try.f4 Rows.fnExactSameDefRow.domain false) (Rows.fnExactSameDefSpec.post enc Try.prog Try.f4 false true false false) := by
  refine returnsInHanded_of_change (C := Try.checked) own started (by kernel_rfl) Try.func4
    (ChangeSpec.witness6 (enc := enc) (C := Try.checked) false ⟨#[], #[.agg #[.string ByteArray.empty, .slice none 0 0], .agg #[.string ByteArray.empty, .slice none 0 0]], []⟩ 8 (by kernel_rfl) (by kernel_rfl) (by kernel_rfl) (by kernel_rfl)) ?_
  intro W base args ds gs before hval0 hW hcnd _
  have hval : ∀ (j : Nat) t v, Try.f4.params[j]? = some t → args[j]? = some v → Value.okWide Try.prog W .any base t v := hval0
  have hW' := hW
  obtain ⟨p, q, hA0, hV, rfl, hfz, hnd⟩ := hW
  have hA : DataW.TrodAll enc Try.prog W 0 (fun _ => true) true Try.f4.params.toList args.toList ds p := hA0
  rw [Try.params4] at hA hval
  obtain ⟨v0, vs0, d0, ds0, p0, q0, hargs, rfl, rfl, h0, r0⟩ := trodAll_cons hA
  obtain ⟨v1, vs1, d1, ds1, p1, q1, rfl, rfl, rfl, h1, r1⟩ := trodAll_cons r0
  obtain ⟨rfl, rfl, rfl⟩ := trodAll_nil r1
  obtain rfl : args = #[v0, v1] := by cases args; simp_all
  obtain ⟨rfl, rfl⟩ := trodVars_none hV
  have k0 := h0
  have lt0 : ∀ x ∈ p0, x.block < W.heap.size := by obtain ⟨m, hm⟩ := k0; exact DataW.trod_lt m _ _ _ hm
  obtain ⟨X0, rfl, hR0, w0⟩ := def_in (hval 0 24 v0 rfl rfl) h0
  have k1 := h1
  have lt1 : ∀ x ∈ p1, x.block < W.heap.size := by obtain ⟨m, hm⟩ := k1; exact DataW.trod_lt m _ _ _ hm
  obtain ⟨X1, rfl, hR1, w1⟩ := def_in (hval 1 24 v1 rfl rfl) h1
  clear hA0 hval0
  refine (walk X0 X1 W hR0 w0 hR1 w1).mono fun e W' ⟨he, bel⟩ => ?_
  subst he
  exact ⟨_, rfl, _, _, _, [], _, [], hW', trodAll_mk1 (shut_bool Try.underlying4 _), (trodAll_cons_mk (Below.trod laidOut (by kernel_rfl) (of_decide_eq_true (by kernel_rfl)) k0 bel lt0) (trodAll_cons_mk (Below.trod laidOut (by kernel_rfl) (of_decide_eq_true (by kernel_rfl)) k1 bel lt1) trodAll_mk0)), rfl, bel.frame _, fun h => by cases h⟩

theorem over : Rows.fnExactSameDefRow.holds Try.pinned (OpenSpec.ofChange Rows.fnExactSameDefSpec) :=
  OpenClaim.holds_of_wide 4 Try.f4 rfl rfl rfl rfl rfl rfl rfl ⟨rfl, rfl, rfl, rfl, rfl⟩ rfl rfl rfl rfl rfl (by kernel_rfl) Try.func4 (by kernel_rfl)
    (of_decide_eq_true (by kernel_rfl)) (by unfold Func.isWrapper; first | (rw [if_pos (by decide +kernel)]; kernel_rfl) | (rw [if_neg (by decide +kernel)]; exact ⟨rfl, rfl⟩))
    (fun os started H enc _ => lifted os started H enc)
end Go.Proofs.Ytcfhpcbkdpgboaa.ExSameDef
namespace Go.Proofs.Ytcfhpcbkdpgboaa
theorem fnExactSameDef_holds : Rows.FnExactSameDefSaid := ExSameDef.over
#print axioms fnExactSameDef_holds
end Go.Proofs.Ytcfhpcbkdpgboaa
