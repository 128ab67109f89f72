/-
  The contracts of the laws' own helpers on acts: toAct copies, szAct counts off, eqAct finds an act the same as itself.
-/
import Derived.Test.YtfgigcdfmkfkjaaJLawExprS
import Derived.Test.YtfgigcdfmkfkjaaJoined3
import Derived.Test.YtfgigcdfmkfkjaaJoined1
namespace Go.Proofs.Ytfgigcdfmkfkjaa
open Go.RowKit
set_option linter.unusedVariables false

set_option maxRecDepth 100000 in
set_option maxHeartbeats 3200000 in
theorem toAct_any (K : Int) (nm : ByteArray) (a : Option Addr) (cap : Nat) (L : List X11) (N : Int) (un : ByteArray) (w : World) (hr : RdExpr w a L) (hn : L.length ≤ 1048576) :
    Calls Try.prog 96 #[.agg #[.int .i64 K, .string nm, .slice a L.length cap, .int .i64 N, .string un]] w fun e w' =>
      ∃ g, e = .returned (.agg #[.int .i64 K, .string nm, .slice (some ⟨g, 0, none⟩) L.length L.length, .int .i64 N, .string un]) ∧ w.heap.size ≤ g ∧ OwnExpr w' g L.length L ∧ Below w.heap.size w w' := by
  go_enter Try.func96, Try.ntmps96
  go_wp2_with fail
  obtain ⟨hA, hR, hX, b2⟩ := boxes3 w #[.int .i64 K, .string nm, .slice a L.length cap, .int .i64 N, .string un] #[.int .i64 0, .string ⟨#[]⟩, .slice none 0 0, .int .i64 0, .string ⟨#[]⟩] #[.int .i64 K, .string nm, .slice none 0 0, .int .i64 0, .string ⟨#[]⟩] 148 166 166
  refine (toExprS_at a cap L _ (hr.below b2) hn).mono ?_
  rintro e w1 ⟨rfl, ho, hb⟩
  have HA := hide (box_below hA hb (by simp; omega))
  have HR := hide (box_below hR hb (by simp))
  have HX := hide (box_below hX hb (by simp))
  have hB : Below w.heap.size w w1 := b2.trans (hb.mono b2.size)
  have hO : OwnExpr w1 _ _ L := OwnK.of X11.len (by decide) ho
  clear ho hb hR hX hA b2
  simp only [World.size_alloc] at hO ⊢
  have p3 := boxk_cell HA.out 3 _ rfl
  have p4 := boxk_cell HA.out 4 _ rfl
  have x0 := boxk_cell HX.out 0 _ rfl
  have x1 := boxk_cell HX.out 1 _ rfl
  have x2 := boxk_cell HX.out 2 _ rfl
  have x3 := boxk_cell HX.out 3 _ rfl
  have x4 := boxk_cell HX.out 4 _ rfl
  have xf2 := boxk_frozen HX.out 2
  have xf3 := boxk_frozen HX.out 3
  have xf4 := boxk_frozen HX.out 4
  have r0 := boxk_cell HR.out 0 _ rfl
  have r1 := boxk_cell HR.out 1 _ rfl
  have r2 := boxk_cell HR.out 2 _ rfl
  have r3 := boxk_cell HR.out 3 _ rfl
  have r4 := boxk_cell HR.out 4 _ rfl
  have rf0 := boxk_frozen HR.out 0
  have rf1 := boxk_frozen HR.out 1
  have rf2 := boxk_frozen HR.out 2
  have rf3 := boxk_frozen HR.out 3
  have rf4 := boxk_frozen HR.out 4
  have HX2 := hide (boxk_set HX.out 2 (.slice (some ⟨w.heap.size + 1 + 1 + 1, 0, none⟩) L.length L.length))
  have HX3 := hide (boxk_set HX2.out.1 3 (.int .i64 N))
  have HX4 := hide (boxk_set HX3.out.1 4 (.string un))
  have HR2 := hide (box_gr (box_gr (box_gr HR.out HX2.out.2 (by omega)) HX3.out.2 (by omega)) HX4.out.2 (by omega))
  have HB2 := hide (below_set (below_set (below_set hB HX2.out.2 (by omega)) HX3.out.2 (by omega)) HX4.out.2 (by omega))
  have hz := hO.lt
  have HO2 := hide (((hO.grown HX2.out.2 (by omega)).grown HX3.out.2 (by omega)).grown HX4.out.2 (by omega))
  clear hO hB
  go_wp2
  refine box5_post HR2.out (fun w4 h4 gr => ?_)
  clear x0 x1 x2 x3 x4 xf2 xf3 xf4 r0 r1 r2 r3 r4 rf0 rf1 rf2 rf3 rf4 p3 p4
  have c0 := boxk_cell h4 0 _ rfl
  have c1 := boxk_cell h4 1 _ rfl
  have c2 := boxk_cell h4 2 _ rfl
  have c3 := boxk_cell h4 3 _ rfl
  have c4 := boxk_cell h4 4 _ rfl
  exact bodyPost_ret (v := .agg #[.int .i64 K, .string nm, .slice (some ⟨w.heap.size + 1 + 1 + 1, 0, none⟩) L.length L.length, .int .i64 N, .string un]) (by simp [results, Try.results96, go_sem, c0, c1, c2, c3, c4]) rfl
    ⟨_, rfl, by omega, HO2.out.grown gr (by omega), below_set HB2.out gr (by omega)⟩

set_option maxRecDepth 100000 in
set_option maxHeartbeats 1600000 in
theorem szAct_any (K : Int) (nm : ByteArray) (a : Option Addr) (cap : Nat) (L : List X11) (N : Int) (un : ByteArray) (left : Int) (w : World) (hkd : nm.size ≤ maxLen) (hun : un.size ≤ maxLen) (hr : RdExpr w a L) (hs : ∀ x ∈ L, x.fits) (hm : L.length ≤ maxLen) (h0 : 0 ≤ left) (h1 : left ≤ 1048576) :
    Calls Try.prog 90 #[.agg #[.int .i64 K, .string nm, .slice a L.length cap, .int .i64 N, .string un], .int .i64 left] w fun e w' =>
      (∃ r, e = .returned (.int .i64 r) ∧ (r = -1 ∨ (0 ≤ r ∧ r + (nm.size : Int) + (L.length : Int) + (un.size : Int) ≤ left ∧ ∀ x ∈ L, x.small))) ∧ Below w.heap.size w w' := by
  unfold maxLen at hkd hun
  by_cases h2 : left - (nm.size : Int) < 0
  · go_enter Try.func90, Try.ntmps90
    go_wp2
    go_ret
    exact ⟨⟨-1, rfl, .inl rfl⟩, by go_grown⟩
  · have b0 := below_al w (.cells #[.int .i64 K, .string nm, .slice a L.length cap, .int .i64 N, .string un] 148)
    have hA := boxk_new w #[.int .i64 K, .string nm, .slice a L.length cap, .int .i64 N, .string un] 148
    go_enter Try.func90, Try.ntmps90
    go_wp2_with fail
    refine (szExprS_any a cap L (left - nm.size) _ (hr.below b0) hs hm (by omega) (by omega)).mono ?_
    rintro e w1 ⟨⟨r, rfl, hr1⟩, hb1⟩
    have hB1 : Below w.heap.size w w1 := b0.trans (hb1.mono b0.size)
    have HA1 := hide (box_step hA hb1)
    clear hb1 b0 hA
    rcases hr1 with rfl | ⟨hr2, hr3, hsm⟩
    · go_wp2
      go_ret
      exact ⟨⟨-1, rfl, .inl rfl⟩, hB1⟩
    · have HSm := hide hsm
      clear hsm
      have a4 := boxk_cell HA1.out 4 _ rfl
      by_cases h3 : r - (un.size : Int) < 0
      · go_wp2
        go_ret
        exact ⟨⟨-1, rfl, .inl rfl⟩, hB1⟩
      · go_wp2
        go_ret
        exact ⟨⟨r - un.size, rfl, .inr ⟨by omega, by omega, HSm.out⟩⟩, hB1⟩

set_option maxRecDepth 100000 in
set_option maxHeartbeats 1600000 in
theorem eqAct_same (K : Int) (nm : ByteArray) (a b : Option Addr) (ca cb : Nat) (L : List X11) (N : Int) (un : ByteArray) (w : World) (hr : RdExpr w a L) (hq : RdExpr w b L) (hn : L.length ≤ 1048580) :
    Calls Try.prog 106 #[.agg #[.int .i64 K, .string nm, .slice a L.length ca, .int .i64 N, .string un], .agg #[.int .i64 K, .string nm, .slice b L.length cb, .int .i64 N, .string un]] w fun e w' =>
      e = .returned (.bool true) ∧ Below w.heap.size w w' := by
  have k0 : (K != K) = false := by simp
  have k1 : (nm.toList == nm.toList) = true := by simp
  have k2 : (N != N) = false := by simp
  have k3 : (un.toList == un.toList) = true := by simp
  go_enter Try.func106, Try.ntmps106
  go_wp2_with fail
  obtain ⟨hP, hQ, b1⟩ := boxes2 w #[.int .i64 K, .string nm, .slice a L.length ca, .int .i64 N, .string un] #[.int .i64 K, .string nm, .slice b L.length cb, .int .i64 N, .string un] 166 166
  refine (eqExprS_same a b ca cb L _ (hr.below b1) (hq.below b1) (by omega)).mono ?_
  rintro e w1 ⟨rfl, hb⟩
  have hB : Below w.heap.size w w1 := b1.trans (hb.mono b1.size)
  have p3 := boxk_cell (box_step hP hb) 3 _ rfl
  have q3 := boxk_cell (box_step hQ hb) 3 _ rfl
  have p4 := boxk_cell (box_step hP hb) 4 _ rfl
  have q4 := boxk_cell (box_step hQ hb) 4 _ rfl
  clear hP hQ hb
  go_wp2
  go_ret
  exact ⟨rfl, hB⟩
/-- what two lists of terms read as, on the way -/
def TwoX (w0 : World) (B : Nat) (a b : Option Addr) (L : List X11) (W : World) : Prop := RdExpr W a L ∧ RdExpr W b L ∧ Below B w0 W ∧ B ≤ W.heap.size
theorem TwoX.keep {w0 W w' : World} {B : Nat} {a b : Option Addr} {L : List X11} (h : TwoX w0 B a b L W) (hb : Below W.heap.size W w') : TwoX w0 B a b L w' :=
  ⟨h.1.below hb, h.2.1.below hb, h.2.2.1.trans (hb.mono h.2.2.2), Nat.le_trans h.2.2.2 hb.size⟩
theorem TwoX.drew {w0 W : World} {B : Nat} {a b : Option Addr} {L : List X11} (h : TwoX w0 B a b L W) : TwoX w0 B a b L W.drew :=
  ⟨h.1.heap rfl, h.2.1.heap rfl, h.2.2.1.drew, h.2.2.2⟩
theorem keepX {w0 W w' : World} {B : Nat} {p0 p1 p2 p3 p4 p5 p6 p7 p8 p9 : Addr} {v0 v1 v2 v3 v4 v5 v6 v7 v8 v9 : Value} {a b : Option Addr} {L : List X11} (hb : Below W.heap.size W w')
    (h : W.cell? p0 = some v0 ∧ W.cell? p1 = some v1 ∧ W.cell? p2 = some v2 ∧ W.cell? p3 = some v3 ∧ W.cell? p4 = some v4 ∧ W.cell? p5 = some v5 ∧ W.cell? p6 = some v6 ∧ W.cell? p7 = some v7 ∧ W.cell? p8 = some v8 ∧ W.cell? p9 = some v9 ∧ TwoX w0 B a b L W) :
    w'.cell? p0 = some v0 ∧ w'.cell? p1 = some v1 ∧ w'.cell? p2 = some v2 ∧ w'.cell? p3 = some v3 ∧ w'.cell? p4 = some v4 ∧ w'.cell? p5 = some v5 ∧ w'.cell? p6 = some v6 ∧ w'.cell? p7 = some v7 ∧ w'.cell? p8 = some v8 ∧ w'.cell? p9 = some v9 ∧ TwoX w0 B a b L w' := by
  obtain ⟨h0, h1, h2, h3, h4, h5, h6, h7, h8, h9, h10⟩ := h
  have k : ∀ {a : Addr} {v : Value}, W.cell? a = some v → w'.cell? a = some v := fun {a v} h => by rw [hb.cell (World.block_lt_of_cell? W _ h)]; exact h
  exact ⟨k h0, k h1, k h2, k h3, k h4, k h5, k h6, k h7, k h8, k h9, h10.keep hb⟩
theorem rdXA {w0 W : World} {B : Nat} {p0 p1 p2 p3 p4 p5 p6 p7 p8 p9 : Addr} {v0 v1 v2 v3 v4 v5 v6 v7 v8 v9 : Value} {a b : Option Addr} {L : List X11}
    (h : W.cell? p0 = some v0 ∧ W.cell? p1 = some v1 ∧ W.cell? p2 = some v2 ∧ W.cell? p3 = some v3 ∧ W.cell? p4 = some v4 ∧ W.cell? p5 = some v5 ∧ W.cell? p6 = some v6 ∧ W.cell? p7 = some v7 ∧ W.cell? p8 = some v8 ∧ W.cell? p9 = some v9 ∧ TwoX w0 B a b L W) : RdExpr W a L := h.2.2.2.2.2.2.2.2.2.2.1
theorem rdXB {w0 W : World} {B : Nat} {p0 p1 p2 p3 p4 p5 p6 p7 p8 p9 : Addr} {v0 v1 v2 v3 v4 v5 v6 v7 v8 v9 : Value} {a b : Option Addr} {L : List X11}
    (h : W.cell? p0 = some v0 ∧ W.cell? p1 = some v1 ∧ W.cell? p2 = some v2 ∧ W.cell? p3 = some v3 ∧ W.cell? p4 = some v4 ∧ W.cell? p5 = some v5 ∧ W.cell? p6 = some v6 ∧ W.cell? p7 = some v7 ∧ W.cell? p8 = some v8 ∧ W.cell? p9 = some v9 ∧ TwoX w0 B a b L W) : RdExpr W b L := h.2.2.2.2.2.2.2.2.2.2.2.1
end Go.Proofs.Ytfgigcdfmkfkjaa
