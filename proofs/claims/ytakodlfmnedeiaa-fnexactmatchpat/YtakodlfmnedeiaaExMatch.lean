/-
  Proved: for every pattern, fact and list of binds, the law on MatchPat answers true (the tested function answers as its model, writes into no argument, and its answer owns its memory), and all that was there reads as it did. No condition.
-/
import Derived.Test.YtakodlfmnedeiaaMatchS
import Derived.Test.YtakodlfmnedeiaaKeepP
import Derived.Test.YtakodlfmnedeiaaKeepF
import Derived.Test.YtakodlfmnedeiaaToFact
import Derived.Test.YtakodlfmnedeiaaMarkPat
import Derived.Test.YtakodlfmnedeiaaMarkBind
import Derived.Test.YtakodlfmnedeiaaRows
import Derived.ProofKit
import Derived.OpenShut
import Derived.ShutString
import Derived.ChangeOld
import Derived.Below
import Derived.Lib.SmallJoins
import Derived.Deep.RegionHeld3
namespace Go.Proofs.Ytakodlfmnedeiaa
open Go.RowKit
set_option linter.unusedVariables false

def Three (w0 : World) (B : Nat) (a1 a2 a3 : Option Addr) (L : List A5) (F : List V3) (M : List B4) (W : World) : Prop := RdArg W a1 L ∧ RdV W a2 F ∧ RdBind W a3 M ∧ Below B w0 W ∧ B ≤ W.heap.size
theorem Three.keep {w0 W w' : World} {B : Nat} {a1 a2 a3 : Option Addr} {L : List A5} {F : List V3} {M : List B4} (h : Three w0 B a1 a2 a3 L F M W) (hb : Below W.heap.size W w') : Three w0 B a1 a2 a3 L F M w' :=
  ⟨h.1.below hb, h.2.1.below hb, h.2.2.1.below hb, h.2.2.2.1.trans (hb.mono h.2.2.2.2), Nat.le_trans h.2.2.2.2 hb.size⟩
theorem Three.drew {w0 W : World} {B : Nat} {a1 a2 a3 : Option Addr} {L : List A5} {F : List V3} {M : List B4} (h : Three w0 B a1 a2 a3 L F M W) : Three w0 B a1 a2 a3 L F M W.drew :=
  ⟨h.1.heap rfl, h.2.1.heap rfl, h.2.2.1.heap rfl, h.2.2.2.1.drew, h.2.2.2.2⟩
/-- five cells (a pattern and a fact in memory) and what the three lists read as -/
def Five (w0 : World) (B p q : Nat) (kd : ByteArray) (x1 : Value) (nt : Bool) (kd' : ByteArray) (x2 : Value) (a1 a2 a3 : Option Addr) (L : List A5) (F : List V3) (M : List B4) (W : World) : Prop :=
  W.cell? ⟨p, 0, none⟩ = some (.string kd) ∧ W.cell? ⟨p, 1, none⟩ = some x1 ∧ W.cell? ⟨p, 2, none⟩ = some (.bool nt) ∧ W.cell? ⟨q, 0, none⟩ = some (.string kd') ∧ W.cell? ⟨q, 1, none⟩ = some x2 ∧ Three w0 B a1 a2 a3 L F M W
theorem keep5 {w0 W w' : World} {B : Nat} {p0 p1 p2 p3 p4 : Addr} {v0 v1 v2 v3 v4 : Value} {a1 a2 a3 : Option Addr} {L : List A5} {F : List V3} {M : List B4} (hb : Below W.heap.size W w')
    (h : W.cell? p0 = some v0 ∧ W.cell? p1 = some v1 ∧ W.cell? p2 = some v2 ∧ W.cell? p3 = some v3 ∧ W.cell? p4 = some v4 ∧ Three w0 B a1 a2 a3 L F M W) :
    w'.cell? p0 = some v0 ∧ w'.cell? p1 = some v1 ∧ w'.cell? p2 = some v2 ∧ w'.cell? p3 = some v3 ∧ w'.cell? p4 = some v4 ∧ Three w0 B a1 a2 a3 L F M w' := by
  obtain ⟨h0, h1, h2, h3, h4, h5⟩ := h
  have k : ∀ {a : Addr} {v : Value}, W.cell? a = some v → w'.cell? a = some v := fun {a v} h => by rw [hb.cell (World.block_lt_of_cell? W _ h)]; exact h
  exact ⟨k h0, k h1, k h2, k h3, k h4, h5.keep hb⟩
theorem rd5A {w0 W : World} {B : Nat} {p0 p1 p2 p3 p4 : Addr} {v0 v1 v2 v3 v4 : Value} {a1 a2 a3 : Option Addr} {L : List A5} {F : List V3} {M : List B4}
    (h : W.cell? p0 = some v0 ∧ W.cell? p1 = some v1 ∧ W.cell? p2 = some v2 ∧ W.cell? p3 = some v3 ∧ W.cell? p4 = some v4 ∧ Three w0 B a1 a2 a3 L F M W) : RdArg W a1 L := h.2.2.2.2.2.1
theorem rd5V {w0 W : World} {B : Nat} {p0 p1 p2 p3 p4 : Addr} {v0 v1 v2 v3 v4 : Value} {a1 a2 a3 : Option Addr} {L : List A5} {F : List V3} {M : List B4}
    (h : W.cell? p0 = some v0 ∧ W.cell? p1 = some v1 ∧ W.cell? p2 = some v2 ∧ W.cell? p3 = some v3 ∧ W.cell? p4 = some v4 ∧ Three w0 B a1 a2 a3 L F M W) : RdV W a2 F := h.2.2.2.2.2.2.1
theorem rd5B {w0 W : World} {B : Nat} {p0 p1 p2 p3 p4 : Addr} {v0 v1 v2 v3 v4 : Value} {a1 a2 a3 : Option Addr} {L : List A5} {F : List V3} {M : List B4}
    (h : W.cell? p0 = some v0 ∧ W.cell? p1 = some v1 ∧ W.cell? p2 = some v2 ∧ W.cell? p3 = some v3 ∧ W.cell? p4 = some v4 ∧ Three w0 B a1 a2 a3 L F M W) : RdBind W a3 M := h.2.2.2.2.2.2.2.1
end Go.Proofs.Ytakodlfmnedeiaa
namespace Go.Proofs.Ytakodlfmnedeiaa.ExMatch
open Go.ChangeShapes Go.WideShapes Go.ChangeAt Go.RowKit Go.Joins
open Go.ChangeMaps (open_string shut_string)
set_option linter.unusedVariables false

set_option maxRecDepth 100000 in
set_option maxHeartbeats 12800000 in
theorem walk (kd : ByteArray) (a1 : Option Addr) (n1 c1 : Nat) (L : List A5) (nt : Bool) (kd' : ByteArray) (a2 : Option Addr) (n2 c2 : Nat) (F : List V3) (a3 : Option Addr) (n3 c3 : Nat) (M0 : List B4) (w : World)
    (hkd : kd.size ≤ maxLen) (hv1 : IsArgs w a1 n1 c1 L) (hkd' : kd'.size ≤ maxLen) (hv2 : IsVals w a2 n2 c2 F) (hv3 : IsBinds w a3 n3 c3 M0) :
    Calls Try.prog 7 #[.agg #[.string kd, .slice a1 n1 c1, .bool nt], .agg #[.string kd', .slice a2 n2 c2], .slice a3 n3 c3] w fun e w' => e = .returned (.bool true) ∧ Below w.heap.size w w' := by
  obtain ⟨rfl, hm1, hr1, hs1⟩ := hv1
  obtain ⟨rfl, hm2, hr2, hs2⟩ := hv2
  obtain ⟨rfl, hm3, hr3, hs3⟩ := hv3
  go_enter Try.func7, Try.ntmps7
  go_wp2_with fail
  have b0 := below_al w (.cells #[.string kd, .slice a1 L.length c1, .bool nt] 35)
  have b1 := b0.alloc b0.size (.cells #[.string kd', .slice a2 F.length c2] 60)
  have hA := box_old (boxk_new w #[.string kd, .slice a1 L.length c1, .bool nt] 35) (by simp) (.cells #[.string kd', .slice a2 F.length c2] 60)
  have hB := boxk_new (w.alloc (.cells #[.string kd, .slice a1 L.length c1, .bool nt] 35)) #[.string kd', .slice a2 F.length c2] 60
  simp only [World.size_alloc] at hB
  have hz : w.heap.size + 2 ≤ ((w.alloc (.cells #[.string kd, .slice a1 L.length c1, .bool nt] 35)).alloc (.cells #[.string kd', .slice a2 F.length c2] 60)).heap.size := by simp
  refine (szPat_any kd a1 c1 L nt 1048576 _ hkd (hr1.below b1) hs1 hm1 (by omega) (by omega)).mono ?_
  generalize (w.alloc (.cells #[.string kd, .slice a1 L.length c1, .bool nt] 35)).alloc (.cells #[.string kd', .slice a2 F.length c2] 60) = w0 at b1 hA hB hz
  rintro e w1 ⟨⟨r1, rfl, hq1⟩, hb1⟩
  have HA1 := hide (box_step hA hb1)
  have HB1 := hide (box_step hB hb1)
  have hB1 : Below w.heap.size w w1 := b1.trans (hb1.mono b1.size)
  have hz1 : w.heap.size + 2 ≤ w1.heap.size := Nat.le_trans hz hb1.size
  clear hb1 b0 b1 hA hB hz
  rcases hq1 with rfl | ⟨hq1, hq2, hsm1⟩
  · go_wp2
    go_ret
    exact ⟨rfl, hB1⟩
  have HS1 := hide hsm1
  clear hsm1
  obtain ⟨y0, y1, -, -⟩ := box2_cell HB1.out
  go_wp2_with fail
  refine (szFact_any kd' a2 c2 F r1 _ hkd' (hr2.below hB1) hs2 hm2 hq1 (by omega)).mono ?_
  rintro e w2 ⟨⟨r2, rfl, hq3⟩, hb2⟩
  have HA2 := hide (box_step HA1.out hb2)
  have HB2 := hide (box_step HB1.out hb2)
  have hB2 : Below w.heap.size w w2 := hB1.trans (hb2.mono hB1.size)
  have hz2 : w.heap.size + 2 ≤ w2.heap.size := Nat.le_trans hz1 hb2.size
  clear hb2 y0 y1 HA1 HB1 hB1
  rcases hq3 with rfl | ⟨hq3, hq4⟩
  · go_wp2
    go_ret
    exact ⟨rfl, hB2⟩
  have HS2 : Hid (∀ u ∈ F, u.S.size ≤ 1048576) := fun u hu => by have := szL_mem hu; omega
  have hFn : L.length + F.length + (r2.toNat) ≤ 1048576 := by unfold szL at hq4; omega
  have hr2n : r2.toNat = r2 := by omega
  clear hq4
  go_wp2_with fail
  refine (szBindS_any a3 c3 M0 r2 _ (hr3.below hB2) hs3 hm3 hq3 (by omega)).mono ?_
  rintro e w3 ⟨⟨r3, rfl, hq5⟩, hb3⟩
  have HA3 := hide (box_step HA2.out hb3)
  have HB3 := hide (box_step HB2.out hb3)
  have hB3 : Below w.heap.size w w3 := hB2.trans (hb3.mono hB2.size)
  have hz3 : w.heap.size + 2 ≤ w3.heap.size := Nat.le_trans hz2 hb3.size
  clear hb3 HA2 HB2 hB2
  rcases hq5 with rfl | ⟨hq5, hq6, hsm3⟩
  · go_wp2
    go_ret
    exact ⟨rfl, hB3⟩
  have HS3 := hide hsm3
  have hn : L.length + F.length + M0.length ≤ 1048576 := by omega
  clear hsm3 hq6 hq1 hq2 hq3 hFn hr2n hz1 hz2
  have HI := hide (fun W a1 c1 a2 c2 a3 c3 (h1 : RdArg W a1 L) (h2 : RdV W a2 F) (h3 : RdBind W a3 M0) (h4 : M0.length ≤ c3) => implMatchPat_any kd a1 c1 L nt kd' a2 c2 F a3 c3 M0 W h1 h2 h3 h4 HS1.out HS2.out HS3.out (by omega) (by omega))
  have HSp := hide (fun W a1 c1 a2 c2 a3 c3 (h1 : RdArg W a1 L) (h2 : RdV W a2 F) (h3 : RdBind W a3 M0) => specMatchPat_any kd a1 c1 L nt kd' a2 c2 F a3 c3 M0 W h1 h2 h3 (by omega) (by omega))
  have hrl := matchR_len_le kd kd' L F M0
  generalize matchR kd kd' L F M0 = r at HI HSp hrl
  obtain ⟨R, bb⟩ := r
  simp only at hrl
  have hbb : (bb != bb) = false := by simp
  obtain ⟨a0, a1', a2', -, -, -⟩ := box_cell HA3.out
  obtain ⟨y0, y1, -, -⟩ := box2_cell HB3.out
  have T3 : Three w w.heap.size a1 a2 a3 L F M0 w3 := ⟨hr1.below hB3, hr2.below hB3, hr3.below hB3, hB3, hB3.size⟩
  go_wp2_with fail
  go_region_held3 (fun W => W.cell? ⟨w.heap.size, 0, none⟩ = some (.string kd) ∧ W.cell? ⟨w.heap.size, 1, none⟩ = some (.slice a1 L.length c1) ∧ W.cell? ⟨w.heap.size, 2, none⟩ = some (.bool nt) ∧ W.cell? ⟨w.heap.size + 1, 0, none⟩ = some (.string kd') ∧ W.cell? ⟨w.heap.size + 1, 1, none⟩ = some (.slice a2 F.length c2) ∧ Three w w.heap.size a1 a2 a3 L F M0 W) (first | exact ⟨a0, a1', a2', y0, y1, T3.drew⟩ | exact keep5 (by assumption) (by assumption))
    (first
     | (go_at_call 14; refine (toPat_any _ _ _ _ _ _ (rd5A (by assumption)) (by omega)).mono ?_; rintro e w4 ⟨gw4, rfl, hgw4, ow4, hbw4⟩)
     | (go_at_call 31; refine (toFact_any _ _ _ _ _ (rd5V (by assumption)) (by omega)).mono ?_; rintro e w5 ⟨gw5, rfl, hgw5, ow5, hbw5⟩)
     | (go_at_call 25; refine (toBindS_ex _ _ _ _ (rd5B (by assumption)) (by omega)).mono ?_; rintro e w6 ⟨gw6, rfl, hgw6, ow6, hbw6⟩)
     | (go_at_call 30; refine (HSp.out _ _ _ _ _ _ _ (rdOwnArg ((ow4.later hbw5).later hbw6)) (ow5.later hbw6).rd (rdOwnBind ow6)).mono ?_; rintro e w7 ⟨gw7, cw7, rfl, hgw7, ow7, hbw7⟩))
  have b7 : Below w3.heap.size w3 w7 := below_step (below_step (below_step (below_dr hbw4) hbw5) hbw6) hbw7
  have HA7 := hide (box_step HA3.out b7)
  have HB7 := hide (box_step HB3.out b7)
  have hB7 : Below w.heap.size w w7 := hB3.trans (b7.mono hB3.size)
  have hz7 : w.heap.size + 2 ≤ w7.heap.size := Nat.le_trans hz3 b7.size
  have hlw := ow7.lt
  have hgw : w.heap.size + 2 ≤ gw7 := by
    have := b7.size; have := (show w3.heap.size ≤ w4.heap.size from (below_dr hbw4).size); have := hbw5.size; have := hbw6.size; omega
  clear hbw4 hbw5 hbw6 hbw7 ow4 ow5 ow6 hgw4 hgw5 hgw6 hgw7 b7 HA3 HB3 hB3 T3 a0 a1' a2' y0 y1
  obtain ⟨a0, a1', a2', -, -, -⟩ := box_cell HA7.out
  go_wp2_with fail
  refine (toPat_any kd a1 c1 L nt _ (hr1.below hB7) (by omega)).mono ?_
  rintro e w8 ⟨g8, rfl, hg8, o8, hb8⟩
  clear a0 a1' a2'
  have ox8 := o8
  have hl8 := o8.lt
  clear o8
  have HA8 := hide (box_step HA7.out hb8)
  have HB8 := hide (box_step HB7.out hb8)
  have ow8 := ow7.later hb8
  have hB8 : Below w.heap.size w w8 := hB7.trans (hb8.mono hB7.size)
  have hs8 := hb8.size
  clear HA7 HB7 ow7 hB7 hb8
  have hb9 := below_al w8 (.cells #[.string kd, .slice (some ⟨g8, 0, none⟩) L.length L.length, .bool nt] 40)
  have HX9 := hide (boxk_new w8 #[.string kd, .slice (some ⟨g8, 0, none⟩) L.length L.length, .bool nt] 40)
  have hq9 : w8.heap.size < (w8.alloc (.cells #[.string kd, .slice (some ⟨g8, 0, none⟩) L.length L.length, .bool nt] 40)).heap.size := by simp
  have HA9 := hide (box_step HA8.out hb9)
  have HB9 := hide (box_step HB8.out hb9)
  have ow9 := ow8.later hb9
  have ox9 := ox8.later hb9
  have hB9 := hB8.trans (hb9.mono hB8.size)
  clear HA8 HB8 ow8 ox8 hB8 hb9
  obtain ⟨y0, y1, -, -⟩ := box2_cell HB9.out
  go_wp2_with fail
  refine (toFact_any kd' a2 c2 F _ (hr2.below hB9) (by omega)).mono ?_
  generalize w8.alloc (.cells #[.string kd, .slice (some ⟨g8, 0, none⟩) L.length L.length, .bool nt] 40) = w9 at HX9 hq9 HA9 HB9 ow9 ox9 hB9
  rintro e w10 ⟨g10, rfl, hg10, ov10, hb10⟩
  have hl10 := ov10.lt
  clear y0 y1
  have HA10 := hide (box_step HA9.out hb10)
  have HB10 := hide (box_step HB9.out hb10)
  have HX10 := hide (box_step HX9.out hb10)
  have ow10 := ow9.later hb10
  have ox10 := ox9.later hb10
  have hB10 : Below w.heap.size w w10 := hB9.trans (hb10.mono hB9.size)
  have hs10 := hb10.size
  clear HA9 HB9 HX9 ow9 ox9 hB9 hb10
  have hb11 := below_al w10 (.cells #[.string kd', .slice (some ⟨g10, 0, none⟩) F.length F.length] 66)
  have HY11 := hide (boxk_new w10 #[.string kd', .slice (some ⟨g10, 0, none⟩) F.length F.length] 66)
  have hq11 : w10.heap.size < (w10.alloc (.cells #[.string kd', .slice (some ⟨g10, 0, none⟩) F.length F.length] 66)).heap.size := by simp
  have HA11 := hide (box_step HA10.out hb11)
  have HB11 := hide (box_step HB10.out hb11)
  have HX11 := hide (box_step HX10.out hb11)
  have ow11 := ow10.later hb11
  have ox11 := ox10.later hb11
  have ov11 := ov10.later hb11
  have hB11 := hB10.trans (hb11.mono hB10.size)
  clear HA10 HB10 HX10 ow10 ox10 ov10 hB10 hb11
  go_wp2_with fail
  refine (toBindS_ex a3 c3 M0 _ (hr3.below hB11) (by omega)).mono ?_
  generalize w10.alloc (.cells #[.string kd', .slice (some ⟨g10, 0, none⟩) F.length F.length] 66) = w11 at HY11 hq11 HA11 HB11 HX11 ow11 ox11 ov11 hB11
  rintro e w12 ⟨g12, rfl, hg12, oz12, hb12⟩
  have hl12 := oz12.lt
  have HA12 := hide (box_step HA11.out hb12)
  have HB12 := hide (box_step HB11.out hb12)
  have HX12 := hide (box_step HX11.out hb12)
  have HY12 := hide (box_step HY11.out hb12)
  have ow12 := ow11.later hb12
  have ox12 := ox11.later hb12
  have ov12 := ov11.later hb12
  have hB12 : Below w.heap.size w w12 := hB11.trans (hb12.mono hB11.size)
  have hs12 := hb12.size
  clear HA11 HB11 HX11 HY11 ow11 ox11 ov11 hB11 hb12
  obtain ⟨x0, x1, x2, -, -, -⟩ := box_cell HX12.out
  obtain ⟨y0, y1, -, -⟩ := box2_cell HY12.out
  go_wp2_with fail
  refine (HI.out _ _ _ _ _ _ _ (rdOwnArg ox12) ov12.rd (rdOwnBind oz12) (Nat.le_refl _)).mono ?_
  rintro e w13 ⟨g13, c13, rfl, hg13, og13, hb13⟩
  have hl13 := og13.lt
  clear x0 x1 x2 y0 y1
  have HA13 := hide (box_step HA12.out hb13)
  have HB13 := hide (box_step HB12.out hb13)
  have HX13 := hide (box_step HX12.out hb13)
  have HY13 := hide (box_step HY12.out hb13)
  have ow13 := ow12.later hb13
  have ox13 := ox12.later hb13
  have ov13 := ov12.later hb13
  have oz13 := oz12.later hb13
  have hB13 : Below w.heap.size w w13 := hB12.trans (hb13.mono hB12.size)
  have hs13 := hb13.size
  clear HA12 HB12 HX12 HY12 ow12 ox12 ov12 oz12 hB12 hb13
  go_wp2_with fail
  refine (eqBindS_same _ _ _ _ R _ (rdOwnBind og13) (rdOwnBind ow13) (by omega)).mono ?_
  rintro e w14 ⟨rfl, hb14⟩
  have HA14 := hide (box_step HA13.out hb14)
  have HB14 := hide (box_step HB13.out hb14)
  have HX14 := hide (box_step HX13.out hb14)
  have HY14 := hide (box_step HY13.out hb14)
  have ow14 := ow13.later hb14
  have ox14 := ox13.later hb14
  have ov14 := ov13.later hb14
  have oz14 := oz13.later hb14
  have og14 := og13.later hb14
  have hB14 : Below w.heap.size w w14 := hB13.trans (hb14.mono hB13.size)
  have hs14 := hb14.size
  clear HA13 HB13 HX13 HY13 ow13 ox13 ov13 oz13 og13 hB13 hb14
  obtain ⟨a0, a1', a2', -, -, -⟩ := box_cell HA14.out
  obtain ⟨x0, x1, x2, -, -, -⟩ := box_cell HX14.out
  have T14 : TwoA w w.heap.size a1 (some ⟨g8, 0, none⟩) L w14 := ⟨hr1.below hB14, rdOwnArg ox14, hB14, hB14.size⟩
  go_wp2_with fail
  go_region_held3 (fun W => W.cell? ⟨w.heap.size, 0, none⟩ = some (.string kd) ∧ W.cell? ⟨w.heap.size, 1, none⟩ = some (.slice a1 L.length c1) ∧ W.cell? ⟨w.heap.size, 2, none⟩ = some (.bool nt) ∧ W.cell? ⟨w8.heap.size, 0, none⟩ = some (.string kd) ∧ W.cell? ⟨w8.heap.size, 1, none⟩ = some (.slice (some ⟨g8, 0, none⟩) L.length L.length) ∧ W.cell? ⟨w8.heap.size, 2, none⟩ = some (.bool nt) ∧ TwoA w w.heap.size a1 (some ⟨g8, 0, none⟩) L W) (first | exact ⟨a0, a1', a2', x0, x1, x2, T14.drew⟩ | exact keepP (by assumption) (by assumption))
    (first | (go_at_call 14; refine (toPat_any _ _ _ _ _ _ (rdPA (by assumption)) (by omega)).mono ?_; rintro e w15 ⟨g15, rfl, hg15, o15, hb15⟩) | (go_at_call 16; refine (eqPat_same _ _ _ _ _ _ _ _ (rdPB (by assumption)) (rdOwnArg o15) (by omega)).mono ?_; rintro e w16 ⟨rfl, hb16'⟩))
  have hb16 : Below w14.heap.size w14 w16 := below_step (below_dr hb15) hb16'
  clear hb15 hb16' o15 a0 a1' a2' x0 x1 x2 T14 hg15
  have HA16 := hide (box_step HA14.out hb16)
  have HB16 := hide (box_step HB14.out hb16)
  have HX16 := hide (box_step HX14.out hb16)
  have HY16 := hide (box_step HY14.out hb16)
  have ow16 := ow14.later hb16
  have ox16 := ox14.later hb16
  have ov16 := ov14.later hb16
  have oz16 := oz14.later hb16
  have og16 := og14.later hb16
  have hB16 : Below w.heap.size w w16 := hB14.trans (hb16.mono hB14.size)
  have hs16 := hb16.size
  clear HA14 HB14 HX14 HY14 ow14 ox14 ov14 oz14 og14 hB14 hb16
  obtain ⟨a0, a1', -, -⟩ := box2_cell HB16.out
  obtain ⟨x0, x1, -, -⟩ := box2_cell HY16.out
  have T16 : Two w w.heap.size a2 (some ⟨g10, 0, none⟩) F F w16 := ⟨hr2.below hB16, ov16.rd, hB16, hB16.size⟩
  go_wp2_with fail
  go_region_held3 (fun W => W.cell? ⟨w.heap.size + 1, 0, none⟩ = some (.string kd') ∧ W.cell? ⟨w.heap.size + 1, 1, none⟩ = some (.slice a2 F.length c2) ∧ W.cell? ⟨w10.heap.size, 0, none⟩ = some (.string kd') ∧ W.cell? ⟨w10.heap.size, 1, none⟩ = some (.slice (some ⟨g10, 0, none⟩) F.length F.length) ∧ Two w w.heap.size a2 (some ⟨g10, 0, none⟩) F F W) (first | exact ⟨a0, a1', x0, x1, T16.drew⟩ | exact keepF (by assumption) (by assumption))
    (first | (go_at_call 31; refine (toFact_any _ _ _ _ _ (rdA (by assumption)) (by omega)).mono ?_; rintro e w17 ⟨g17, rfl, hg17, o17, hb17⟩) | (go_at_call 33; refine (eqFact_same _ _ _ _ _ _ _ (rdB (by assumption)) o17.rd (by omega)).mono ?_; rintro e w18 ⟨rfl, hb18'⟩))
  have hb18 : Below w16.heap.size w16 w18 := below_step (below_dr hb17) hb18'
  clear hb17 hb18' o17 a0 a1' x0 x1 T16 hg17
  have HA18 := hide (box_step HA16.out hb18)
  have HB18 := hide (box_step HB16.out hb18)
  have HX18 := hide (box_step HX16.out hb18)
  have HY18 := hide (box_step HY16.out hb18)
  have ow18 := ow16.later hb18
  have ox18 := ox16.later hb18
  have ov18 := ov16.later hb18
  have oz18 := oz16.later hb18
  have og18 := og16.later hb18
  have hB18 : Below w.heap.size w w18 := hB16.trans (hb18.mono hB16.size)
  have hs18 := hb18.size
  clear HA16 HB16 HX16 HY16 ow16 ox16 ov16 oz16 og16 hB16 hb18
  go_wp2_with fail
  refine (toBindS_ex a3 c3 M0 _ (hr3.below hB18) (by omega)).mono ?_
  rintro e w19 ⟨g19, rfl, hg19, o19, hb19⟩
  have HA19 := hide (box_step HA18.out hb19)
  have HB19 := hide (box_step HB18.out hb19)
  have HX19 := hide (box_step HX18.out hb19)
  have HY19 := hide (box_step HY18.out hb19)
  have ow19 := ow18.later hb19
  have ox19 := ox18.later hb19
  have ov19 := ov18.later hb19
  have oz19 := oz18.later hb19
  have og19 := og18.later hb19
  have hB19 : Below w.heap.size w w19 := hB18.trans (hb19.mono hB18.size)
  have hs19 := hb19.size
  clear HA18 HB18 HX18 HY18 ow18 ox18 ov18 oz18 og18 hB18 hb19
  go_wp2_with fail
  refine (eqBindS_same _ _ _ _ M0 _ (rdOwnBind oz19) (rdOwnBind o19) (by omega)).mono ?_
  rintro e w20 ⟨rfl, hb20⟩
  clear o19 hg19
  have HA20 := hide (box_step HA19.out hb20)
  have HB20 := hide (box_step HB19.out hb20)
  have HX20 := hide (box_step HX19.out hb20)
  have HY20 := hide (box_step HY19.out hb20)
  have ow20 := ow19.later hb20
  have ox20 := ox19.later hb20
  have ov20 := ov19.later hb20
  have oz20 := oz19.later hb20
  have og20 := og19.later hb20
  have hB20 : Below w.heap.size w w20 := hB19.trans (hb20.mono hB19.size)
  have hs20 := hb20.size
  clear HA19 HB19 HX19 HY19 ow19 ox19 ov19 oz19 og19 hB19 hb20
  obtain ⟨x0, x1, x2, -, -, -⟩ := box_cell HX20.out
  go_wp2_with fail
  refine (markPat_any kd g8 _ L nt _ ox20 (by omega)).mono ?_
  rintro e w21 ⟨⟨r21, rfl, hr21⟩, gr21⟩
  clear x0 x1 x2
  have HA21 := hide (box_apart HA20.out gr21 (fun k hk => by cases hk; omega))
  have HB21 := hide (box_apart HB20.out gr21 (fun k hk => by cases hk; omega))
  have HX21 := hide (box_apart HX20.out gr21 (fun k hk => by cases hk; omega))
  have HY21 := hide (box_apart HY20.out gr21 (fun k hk => by cases hk; omega))
  have ow21 := ow20.grown gr21 (by omega)
  have ov21 := ov20.grown gr21 (by omega)
  have oz21 := oz20.grown gr21 (by omega)
  have og21 := og20.grown gr21 (by omega)
  have hB21 : Below w.heap.size w w21 := hB20.grown gr21 hB20.size (fun k hk => by cases hk; omega)
  have hs21 := gr21.size
  clear HA20 HB20 HX20 HY20 ow20 ox20 ov20 oz20 og20 hB20 gr21
  clear HX21
  obtain ⟨y0, y1, -, -⟩ := box2_cell HY21.out
  go_wp2_with fail
  refine (markFact_i kd' g10 _ (r21 : Int) r21 F _ ov21 (by omega) (by omega) rfl).mono ?_
  rintro e w22 ⟨⟨r22, rfl, hr22⟩, -, hoth22, hbl22⟩
  have gr22 := grown_of hbl22 hoth22
  clear y0 y1 hoth22 hbl22
  have HA22 := hide (box_apart HA21.out gr22 (fun k hk => by cases hk; omega))
  have HB22 := hide (box_apart HB21.out gr22 (fun k hk => by cases hk; omega))
  have HY22 := hide (box_apart HY21.out gr22 (fun k hk => by cases hk; omega))
  have ow22 := ow21.grown gr22 (by omega)
  have oz22 := oz21.grown gr22 (by omega)
  have og22 := og21.grown gr22 (by omega)
  have hB22 : Below w.heap.size w w22 := hB21.grown gr22 hB21.size (fun k hk => by cases hk; omega)
  have hs22 := gr22.size
  clear HA21 HB21 HY21 ow21 ov21 oz21 og21 hB21 gr22
  clear HY22
  have hr22' : r22 ≤ 33554500 := by omega
  clear hr22
  go_wp2_with fail
  refine (markBindS_any g12 _ r22 M0 _ oz22 (by omega) hr22').mono ?_
  rintro e w23 ⟨rfl, -, gr23⟩
  have HA23 := hide (box_apart HA22.out gr23 (fun k hk => by cases hk; omega))
  have HB23 := hide (box_apart HB22.out gr23 (fun k hk => by cases hk; omega))
  have ow23 := ow22.grown gr23 (by omega)
  have og23 := og22.grown gr23 (by omega)
  have hB23 : Below w.heap.size w w23 := hB22.grown gr23 hB22.size (fun k hk => by cases hk; omega)
  have hs23 := gr23.size
  clear HA22 HB22 ow22 oz22 og22 hB22 gr23
  obtain ⟨r23, hr23⟩ : ∃ r : Nat, r = r22 + 4 * M0.length := ⟨_, rfl⟩
  rw [← hr23]
  have hn23 : ¬ ((r23 : Int) < 0) := by omega
  clear hr23
  go_wp2_with fail
  refine (eqBindS_same _ _ _ _ R _ (rdOwnBind og23) (rdOwnBind ow23) (by omega)).mono ?_
  rintro e w24 ⟨rfl, hb24⟩
  have HA24 := hide (box_step HA23.out hb24)
  have HB24 := hide (box_step HB23.out hb24)
  have ow24 := ow23.later hb24
  have og24 := og23.later hb24
  have hB24 : Below w.heap.size w w24 := hB23.trans (hb24.mono hB23.size)
  have hs24 := hb24.size
  clear HA23 HB23 ow23 og23 hB23 hb24
  go_wp2_with fail
  refine (markBindS_any g13 _ 1 R _ og24 (by omega) (by omega)).mono ?_
  rintro e w25 ⟨rfl, om25, gr25⟩
  obtain ⟨q, hq⟩ : ∃ q : Nat, q = 1 + 4 * R.length := ⟨_, rfl⟩
  rw [← hq]
  have HQ := hide hq
  clear hq
  have hq1 : ¬ ((q : Int) < 0) := by omega
  have hq2 : ((q : Int) != (q : Int)) = false := by simp
  have HA25 := hide (box_apart HA24.out gr25 (fun k hk => by cases hk; omega))
  have HB25 := hide (box_apart HB24.out gr25 (fun k hk => by cases hk; omega))
  have ow25 := ow24.grown gr25 (by omega)
  have hB25 : Below w.heap.size w w25 := hB24.grown gr25 hB24.size (fun k hk => by cases hk; omega)
  have hs25 := gr25.size
  clear HA24 HB24 ow24 og24 hB24 gr25
  go_wp2_with fail
  refine (heldBindS_1 _ _ _ _ (rdOwnBind om25) (by omega)).mono ?_
  rintro e w26 ⟨rfl, hb26⟩
  rw [← HQ.out]
  have HA26 := hide (box_step HA25.out hb26)
  have HB26 := hide (box_step HB25.out hb26)
  have ow26 := ow25.later hb26
  have om26 := om25.later hb26
  have hB26 : Below w.heap.size w w26 := hB25.trans (hb26.mono hB25.size)
  have hs26 := hb26.size
  clear HA25 HB25 ow25 om25 hB25 hb26
  obtain ⟨a0, a1', a2', -, -, -⟩ := box_cell HA26.out
  obtain ⟨y0, y1, -, -⟩ := box2_cell HB26.out
  have T26 : Three w w.heap.size a1 a2 a3 L F M0 w26 := ⟨hr1.below hB26, hr2.below hB26, hr3.below hB26, hB26, hB26.size⟩
  go_wp2_with fail
  go_region_held3 (fun W => W.cell? ⟨w.heap.size, 0, none⟩ = some (.string kd) ∧ W.cell? ⟨w.heap.size, 1, none⟩ = some (.slice a1 L.length c1) ∧ W.cell? ⟨w.heap.size, 2, none⟩ = some (.bool nt) ∧ W.cell? ⟨w.heap.size + 1, 0, none⟩ = some (.string kd') ∧ W.cell? ⟨w.heap.size + 1, 1, none⟩ = some (.slice a2 F.length c2) ∧ Three w w.heap.size a1 a2 a3 L F M0 W) (first | exact ⟨a0, a1', a2', y0, y1, T26.drew⟩ | exact keep5 (by assumption) (by assumption))
    (first
     | (go_at_call 14; refine (toPat_any _ _ _ _ _ _ (rd5A (by assumption)) (by omega)).mono ?_; rintro e w27 ⟨gw27, rfl, hgw27, ow27, hbw27⟩)
     | (go_at_call 31; refine (toFact_any _ _ _ _ _ (rd5V (by assumption)) (by omega)).mono ?_; rintro e w28 ⟨gw28, rfl, hgw28, ow28, hbw28⟩)
     | (go_at_call 25; refine (toBindS_ex _ _ _ _ (rd5B (by assumption)) (by omega)).mono ?_; rintro e w29 ⟨gw29, rfl, hgw29, ow29, hbw29⟩)
     | (go_at_call 32; refine (HI.out _ _ _ _ _ _ _ (rdOwnArg ((ow27.later hbw28).later hbw29)) (ow28.later hbw29).rd (rdOwnBind ow29) (Nat.le_refl _)).mono ?_; rintro e w30 ⟨gw30, cw30, rfl, hgw30, ow30', hbw30⟩))
  have hb30 : Below w26.heap.size w26 w30 := below_step (below_step (below_step (below_dr hbw27) hbw28) hbw29) hbw30
  clear hbw27 hbw28 hbw29 hbw30 ow27 ow28 ow29 hgw27 hgw28 hgw29 hgw30 T26 a0 a1' a2' y0 y1
  have HA30 := hide (box_step HA26.out hb30)
  have HB30 := hide (box_step HB26.out hb30)
  have ow30 := ow26.later hb30
  have om30 := om26.later hb30
  have hB30 : Below w.heap.size w w30 := hB26.trans (hb30.mono hB26.size)
  have hs30 := hb30.size
  clear HA26 HB26 ow26 om26 hB26 hb30
  go_wp2_with fail
  refine (eqBindS_same _ _ _ _ R _ (rdOwnBind ow30') (rdOwnBind ow30) (by omega)).mono ?_
  rintro e w31 ⟨rfl, hb31⟩
  clear ow30'
  have HA31 := hide (box_step HA30.out hb31)
  have HB31 := hide (box_step HB30.out hb31)
  have ow31 := ow30.later hb31
  have om31 := om30.later hb31
  have hB31 : Below w.heap.size w w31 := hB30.trans (hb31.mono hB30.size)
  have hs31 := hb31.size
  clear HA30 HB30 ow30 om30 hB30 hb31
  go_wp2_with fail
  refine (heldBindS_1 _ _ _ _ (rdOwnBind om31) (by omega)).mono ?_
  rintro e w32 ⟨rfl, hb32⟩
  have hB32 : Below w.heap.size w w32 := hB31.trans (hb32.mono hB31.size)
  rw [← HQ.out]
  clear hb32 hB31 om31 ow31 HA31 HB31
  go_wp2
  go_ret
  exact ⟨rfl, hB32⟩

theorem own : ownKnob Try.prog.godebug = none := by kernel_rfl
theorem laidOut : laidOutB Try.prog = true := by kernel_rfl

set_option maxRecDepth 100000 in
theorem lifted (os : Os) (started : os.Started) (H : Type) (enc : TypeId × Value → H) :
    ReturnsInHanded {} Try.checked os 7 .any (Rows.fnExactMatchPatSpec.pre6 enc Try.prog Try.f7 Rows.fnExactMatchPatRow.domain false) (Rows.fnExactMatchPatSpec.post enc Try.prog Try.f7 false true false false) := by
  refine returnsInHanded_of_change (C := Try.checked) own started (by kernel_rfl) Try.func7
    (ChangeSpec.witness6 (enc := enc) (C := Try.checked) false ⟨#[], #[.agg #[.string ByteArray.empty, .slice none 0 0, .bool false], .agg #[.string ByteArray.empty, .slice none 0 0], .slice none 0 0], []⟩ 8 (by kernel_rfl) (by kernel_rfl) (by kernel_rfl) (by kernel_rfl)) ?_
  intro W base args ds gs before hval0 hW hcnd _
  have hval : ∀ (j : Nat) t v, Try.f7.params[j]? = some t → args[j]? = some v → Value.okWide Try.prog W .any base t v := hval0
  have hW' := hW
  obtain ⟨p, q, hA0, hV, rfl, hfz, hnd⟩ := hW
  have hA : DataW.TrodAll enc Try.prog W 0 (fun _ => true) true Try.f7.params.toList args.toList ds p := hA0
  rw [Try.params7] at hA hval
  obtain ⟨v0, vs0, d0, ds0, p0, q0, hargs, rfl, rfl, h0, r0⟩ := trodAll_cons hA
  obtain ⟨v1, vs1, d1, ds1, p1, q1, rfl, rfl, rfl, h1, r1⟩ := trodAll_cons r0
  obtain ⟨v2, vs2, d2, ds2, p2, q2, rfl, rfl, rfl, h2, r2⟩ := trodAll_cons r1
  obtain ⟨rfl, rfl, rfl⟩ := trodAll_nil r2
  obtain rfl : args = #[v0, v1, v2] := by cases args; simp_all
  obtain ⟨rfl, rfl⟩ := trodVars_none hV
  have k0 := h0
  have lt0 : ∀ x ∈ p0, x.block < W.heap.size := by obtain ⟨m, hm⟩ := k0; exact DataW.trod_lt m _ _ _ hm
  obtain ⟨c0a, c0b, c0c, y0a, y0b, y0c, m0, rfl, _, _, hy0a, hy0b, hy0c⟩ := open_agg3 Try.underlying35 (by kernel_rfl) (by kernel_rfl) (hval 0 35 v0 rfl rfl) h0
  obtain ⟨S0, eS0, _, wS0⟩ := DataW.trod_string Try.underlying9 hy0a
  obtain ⟨B0, eB0, _⟩ := DataW.trod_bool Try.underlying4 hy0c
  simp only [List.cons.injEq, and_true] at eS0 eB0
  subst eS0 eB0
  obtain ⟨a0, len0, cap0, L0, rfl, w0⟩ := args_in hy0b
  have k1 := h1
  have lt1 : ∀ x ∈ p1, x.block < W.heap.size := by obtain ⟨m, hm⟩ := k1; exact DataW.trod_lt m _ _ _ hm
  obtain ⟨c1a, c1b, y1a, y1b, m1, rfl, _, _, hy1a, hy1b⟩ := open_agg2 Try.underlying60 (by kernel_rfl) (by kernel_rfl) (hval 1 60 v1 rfl rfl) h1
  obtain ⟨S1, eS1, _, wS1⟩ := DataW.trod_string Try.underlying9 hy1a
  simp only [List.cons.injEq, and_true] at eS1
  subst eS1
  obtain ⟨a1, len1, cap1, L1, rfl, w1⟩ := vals_in hy1b
  obtain ⟨a2, len2, cap2, rfl⟩ := okWide_slice Try.underlying49 (hval 2 49 v2 rfl rfl)
  have k2 := h2
  have lt2 : ∀ x ∈ p2, x.block < W.heap.size := by obtain ⟨m, hm⟩ := k2; exact DataW.trod_lt m _ _ _ hm
  obtain ⟨b2, m2, c2, L2, e2, w2⟩ : ∃ a len cap L, Value.slice a2 len2 cap2 = .slice a len cap ∧ IsBinds W a len cap L := by
    obtain ⟨fuel, hf⟩ := h2
    exact binds_in hf
  rw [e2] at hW' ⊢
  clear hA0 hval0
  refine (walk S0 a0 len0 cap0 L0 B0 S1 a1 len1 cap1 L1 b2 m2 c2 L2 W wS0 w0 wS1 w1 w2).mono fun e W' ⟨he, bel⟩ => ?_
  subst he
  exact ⟨_, rfl, _, _, _, [], _, [], hW', trodAll_mk1 (shut_bool Try.underlying4 _), (trodAll_cons_mk (Below.trod laidOut (by kernel_rfl) (of_decide_eq_true (by kernel_rfl)) k0 bel lt0) (trodAll_cons_mk (Below.trod laidOut (by kernel_rfl) (of_decide_eq_true (by kernel_rfl)) k1 bel lt1) (trodAll_cons_mk (by rw [← e2]; exact Below.trod laidOut (by kernel_rfl) (of_decide_eq_true (by kernel_rfl)) k2 bel lt2) trodAll_mk0))), rfl, bel.frame _, fun h => by cases h⟩

theorem over : Rows.fnExactMatchPatRow.holds Try.pinned (OpenSpec.ofChange Rows.fnExactMatchPatSpec) :=
  OpenClaim.holds_of_wide 7 Try.f7 rfl rfl rfl rfl rfl rfl rfl ⟨rfl, rfl, rfl, rfl, rfl⟩ rfl rfl rfl rfl rfl (by kernel_rfl) Try.func7 (by kernel_rfl)
    (of_decide_eq_true (by kernel_rfl)) (by unfold Func.isWrapper; first | (rw [if_pos (by decide +kernel)]; kernel_rfl) | (rw [if_neg (by decide +kernel)]; exact ⟨rfl, rfl⟩))
    (fun os started H enc _ => lifted os started H enc)
end Go.Proofs.Ytakodlfmnedeiaa.ExMatch
namespace Go.Proofs.Ytakodlfmnedeiaa
theorem fnExactMatchPat_holds : Rows.FnExactMatchPatSaid := ExMatch.over
#print axioms fnExactMatchPat_holds
end Go.Proofs.Ytakodlfmnedeiaa
