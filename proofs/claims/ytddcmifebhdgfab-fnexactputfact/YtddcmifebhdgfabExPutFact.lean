/-
  Proved: for every row of bytes and every fact, the law on PutFact answers true (the tested function answers as its model, writes into no argument, and its answer owns its memory), and the arguments read as they did. No condition.
-/
import Derived.Test.YtddcmifebhdgfabOwn
import Derived.Test.YtddcmifebhdgfabPutFactS
import Derived.Test.YtddcmifebhdgfabPutFactI
import Derived.Test.YtddcmifebhdgfabMarkF
import Derived.Test.YtddcmifebhdgfabToFact
import Derived.Test.YtddcmifebhdgfabFactArg
import Derived.Test.YtddcmifebhdgfabKeepF
import Derived.Deep.RegionHeld3
namespace Go.Proofs.Ytddcmifebhdgfab.ExPutFact
open Go.ChangeShapes Go.WideShapes Go.ChangeAt Go.RowKit Go.Joins
open Go.ChangeMaps (open_string shut_string)
set_option linter.unusedVariables false

theorem toByteS_ex (a : Option Addr) (cap : Nat) (bs : List UInt8) (w : World) (hr : Rd w a bs) (hn : bs.length ≤ 1048576) :
    Calls Try.prog 12 #[.slice a bs.length cap] w fun e w' =>
      ∃ g, e = .returned (.slice (some ⟨g, 0, none⟩) bs.length bs.length) ∧ w.heap.size ≤ g ∧ Own w' g bs.length bs ∧ Below w.heap.size w w' :=
  (toByteS_own a cap bs w hr hn).mono fun e w' h => ⟨_, h.1, Nat.le_refl _, h.2.1, h.2.2⟩
theorem implPutFact_own (g cap : Nat) (kd : ByteArray) (gf cf : Nat) (L : List V3) (bs F : List UInt8) (w : World) (h : Own w g cap bs) (o : OwnV w gf cf L) (hn : bs.length ≤ 1048580) (hk : kd.size ≤ 1048580) (hs : szL L ≤ 1048580) (hF : bs ++ encF kd L = F) :
    Calls Try.prog 13 #[.slice (some ⟨g, 0, none⟩) bs.length cap, .agg #[.string kd, .slice (some ⟨gf, 0, none⟩) L.length cf]] w fun e w' =>
      ∃ g' c', e = .returned (.slice (some ⟨g', 0, none⟩) F.length c') ∧ w.heap.size ≤ g' ∧ Own w' g' c' F ∧ Below w.heap.size w w' :=
  (implPutFact_any _ cap kd _ cf L bs F w h.rd o.rd (fun b off e => by cases e; exact o.lt) hn hk hs hF).mono fun e w' ⟨v, he, ho, hb⟩ => by
    obtain ⟨g', c', hv, hg, ho'⟩ := owns_own ho (by rw [← hF]; have := encF_pos kd L; simp only [List.length_append]; omega)
    exact ⟨g', c', by rw [he, hv], hg, ho', hb⟩

/-- the fact that came in, in its box, and all that was there -/
structure Arg (w : World) (kd : ByteArray) (a : Option Addr) (n cap : Nat) (W : World) : Prop where
  box : W.heap[w.heap.size]? = some (.cells #[.string kd, .slice a n cap] 24 (0, 0))
  bel : Below w.heap.size w W
theorem Arg.lt {w W : World} {kd : ByteArray} {a : Option Addr} {n cap : Nat} (h : Arg w kd a n cap W) : w.heap.size < W.heap.size := (Array.getElem?_eq_some_iff.1 h.box).1
theorem Arg.keep {w W W' : World} {kd : ByteArray} {a : Option Addr} {n cap : Nat} (h : Arg w kd a n cap W) (hb : Below W.heap.size W W') : Arg w kd a n cap W' :=
  ⟨box_step h.box hb, h.bel.trans (hb.mono h.bel.size)⟩
theorem Arg.grown {w W W' : World} {kd : ByteArray} {a : Option Addr} {n cap g : Nat} (h : Arg w kd a n cap W) (hg : W.grownBy W' (some g)) (hl : w.heap.size < g) : Arg w kd a n cap W' :=
  ⟨box_gr h.box hg (by omega), h.bel.grown hg h.bel.size (fun k hk => by cases hk; omega)⟩
theorem Arg.drew {w W : World} {kd : ByteArray} {a : Option Addr} {n cap : Nat} (h : Arg w kd a n cap W) : Arg w kd a n cap W.drew := ⟨h.box, h.bel.drew⟩
theorem Arg.drewN {w W : World} {kd : ByteArray} {a : Option Addr} {n cap : Nat} (h : Arg w kd a n cap W) (k : Nat) : Arg w kd a n cap (W.drewN k) := ⟨h.box, h.bel.trans (below_drewN _ _ k)⟩
theorem Own.other {w w' : World} {g g' cap : Nat} {bs : List UInt8} (h : Own w g cap bs) (ho : ∀ q, q < w.heap.size → q ≠ g' → w'.heap[q]? = w.heap[q]?) (hne : g ≠ g') : Own w' g cap bs := by
  have hlt := h.lt
  refine ⟨h.1, ?_⟩
  rcases h.2 with h2 | ⟨g2, cap', cur, h1, hb', hh, rest⟩
  · exact .inl h2
  · refine .inr ⟨g2, cap', cur, h1, hb', ?_, rest⟩
    simp only [Value.slice.injEq, Option.some.injEq, Addr.mk.injEq, and_true, true_and] at h1
    rw [ho g2 (by omega) (by omega)]; exact hh
theorem Own.gf {w : World} {g gf cf n : Nat} {bs : List UInt8} {K : List V3} (h : Own w g n bs) (o : OwnV w gf cf K) : g ≠ gf := by
  rintro rfl
  rcases h.2 with ⟨h1, _⟩ | ⟨g2, c2, cur, h1, _, hh, _⟩
  · simp at h1
  rcases o.2 with ⟨k1, _⟩ | ⟨g3, c3, cur3, k1, _, kk, _⟩
  · simp at k1
  simp only [Value.slice.injEq, Option.some.injEq, Addr.mk.injEq, and_true, true_and] at h1 k1
  obtain ⟨rfl, _⟩ := h1
  rw [← k1.1, hh] at kk
  simp at kk

set_option maxRecDepth 100000 in
set_option maxHeartbeats 6400000 in
theorem law (p : Option Addr) (cp : Nat) (kd : ByteArray) (a : Option Addr) (cap : Nat) (L : List V3) (bs : List UInt8) (w : World) (hr : Rd w p bs) (hm : bs.length ≤ maxLen) (hkd : kd.size ≤ maxLen) (hv : RdV w a L) (hs : ∀ v ∈ L, v.S.size ≤ maxLen) (hml : L.length ≤ maxLen) :
    Calls Try.prog 4 #[.slice p bs.length cp, .agg #[.string kd, .slice a L.length cap]] w fun e w' => e = .returned (.bool true) ∧ Below w.heap.size w w' := by
  unfold maxLen at hm
  by_cases hb : 1048576 < bs.length
  · go_enter Try.func4, Try.ntmps4
    go_wp2
    go_ret
    exact ⟨rfl, by go_grown⟩
  have A0 : Arg w kd a L.length cap (w.alloc (.cells #[.string kd, .slice a L.length cap] 24)) := ⟨box2_new w _ _ _, below_al w _⟩
  have hv0 := hv.below A0.bel
  go_enter Try.func4, Try.ntmps4
  go_wp2_with fail
  generalize w.alloc (.cells #[.string kd, .slice a L.length cap] 24) = w0 at A0 hv0 ⊢
  refine (szFact_any kd a cap L 1048576 _ hkd hv0 hs hml (by omega) (by omega)).mono ?_
  rintro e w1 ⟨⟨r, rfl, hr1⟩, hb1⟩
  have A1 := A0.keep hb1
  clear hb1 A0 hv0
  rcases hr1 with rfl | ⟨hr2, hr3⟩
  · go_wp2
    go_ret
    exact ⟨rfl, A1.bel⟩
  have hsz : szL L ≤ 1048576 := by omega
  have hk2 : kd.size ≤ 1048576 := by omega
  have hn : L.length ≤ 1048576 := by unfold szL at hsz; omega
  have hsz2 : szL L ≤ 1048580 := by omega
  have hk3 : kd.size ≤ 1048580 := by omega
  have hel := encF_len kd L
  obtain ⟨E, HE⟩ : ∃ E, Hid (bs ++ encF kd L = E) := ⟨_, rfl⟩
  have hE : E.length ≤ 16000000 := by rw [← HE.out]; simp only [List.length_append]; omega
  have hself : decide (E = E) = true := by simp
  have hself2 : decide (bs = bs) = true := by simp
  have HRD : Hid (∀ W, Below w.heap.size w W → Rd W p bs) := fun W h => hr.below h
  have HRV : Hid (∀ W, Below w.heap.size w W → RdV W a L) := fun W h => hv.below h
  clear hr3 hel hr hv hs hml
  obtain ⟨x0, x1, -, -⟩ := box2_cell A1.box
  have HA1 := hide A1.drew
  have HP1 := hide (HRD.out _ A1.drew.bel)
  clear A1
  go_wp2_with fail
  go_region_held3 (fun W => W.cell? ⟨w.heap.size, 0, none⟩ = some (.string kd) ∧ W.cell? ⟨w.heap.size, 1, none⟩ = some (.slice a L.length cap)) (first | exact ⟨x0, x1⟩ | exact two_cells (HA1.out.keep b2).box | exact two_cells ((HA1.out.keep b2).keep b3).box | exact two_cells (((HA1.out.keep b2).keep b3).keep b4).box)
    (first | (go_at_call 12; refine (toByteS_ex p cp bs _ ?_ (by omega)).mono ?_; (with_reducible exact HP1.out); rintro e u2 ⟨g2, rfl, l2, o2, b2⟩) | (go_at_call 8; refine (toFact_any kd a cap L _ (HRV.out _ (HA1.out.keep b2).bel) hn).mono ?_; rintro e u3 ⟨g3, rfl, l3, o3, b3⟩) | (go_at_call 11; refine (specPutFact_any _ _ kd _ _ L bs E _ ?_ o3.rd (by omega) hk3 hsz2 HE.out).mono ?_; (with_reducible exact (o2.later b3).rd); rintro e u4 ⟨gw, cw, rfl, lw, ow, b4⟩))
  have A4 := ((HA1.out.keep b2).keep b3).keep b4
  have lw2 : w.heap.size < gw := Nat.lt_of_lt_of_le ((HA1.out.keep b2).keep b3).lt lw
  clear x0 x1 HA1 HP1 b2 b3 b4 o2 o3 l2 l3 lw
  go_wp2_with fail
  refine (toByteS_ex p cp bs u4 (HRD.out _ A4.bel) (by omega)).mono ?_
  rintro e u5 ⟨gx, rfl, lx, ox, b5⟩
  have ltw := ow.lt
  replace ow := ow.later b5
  have A5 := A4.keep b5
  have lx2 : w.heap.size < gx := Nat.lt_of_lt_of_le A4.lt lx
  have nwx : gw ≠ gx := by omega
  clear b5 A4
  obtain ⟨x0, x1, -, -⟩ := box2_cell A5.box
  go_wp2_with fail
  refine (toFact_any kd a cap L u5 (HRV.out _ A5.bel) hn).mono ?_
  rintro e u6 ⟨gf, rfl, lf, of, b6⟩
  replace ow := ow.later b6
  replace ox := ox.later b6
  have A6 := A5.keep b6
  have lf2 : w.heap.size < gf := Nat.lt_of_lt_of_le A5.lt lf
  clear b6 A5 x0 x1
  have ba := below_al u6 (.cells #[.string kd, .slice (some ⟨gf, 0, none⟩) L.length L.length] 29)
  have HX := box2_new u6 (.string kd) (.slice (some ⟨gf, 0, none⟩) L.length L.length) 29
  obtain ⟨y0, y1, -, -⟩ := box2_cell HX
  have ow7 := ow.later ba
  have ox7 := ox.later ba
  have of7 := of.later ba
  have A7 := A6.keep ba
  obtain ⟨X, HXq⟩ : ∃ X, Hid (u6.heap.size = X) := ⟨_, rfl⟩
  have hXA : w.heap.size < X := by rw [← HXq.out]; exact A6.lt
  have hXf : gf < X := by rw [← HXq.out]; exact of.lt
  have hXx : gx < X := by rw [← HXq.out]; exact ox.lt
  have hXw : gw < X := by rw [← HXq.out]; exact ow.lt
  go_wp2_with fail
  generalize u6.alloc (.cells #[.string kd, .slice (some ⟨gf, 0, none⟩) L.length L.length] 29) = u7 at ba HX y0 y1 ow7 ox7 of7 A7 ⊢
  rw [HXq.out] at HX y0 y1 ⊢
  clear ow ox of A6 ba HXq
  refine (implPutFact_own gx _ kd gf _ L bs E u7 ox7 of7 (by omega) hk3 hsz2 HE.out).mono ?_
  rintro e w4 ⟨gg, cg, rfl, lg, og, b4⟩
  have ow := ow7.later b4
  have ox := ox7.later b4
  have of := of7.later b4
  have A4 := A7.keep b4
  have HX4 := hide (box_step HX b4)
  have hX7 : X < u7.heap.size := (Array.getElem?_eq_some_iff.1 HX).1
  clear ow7 ox7 of7 A7 HX y0 y1 b4
  go_wp2_with fail
  refine (eqByteS_own gg gw cg cw E E w4 og ow (by omega) (by omega)).mono ?_
  rintro e w5 ⟨rfl, nd, rfl⟩
  replace ow := ow.drewN nd
  replace ox := ox.drewN nd
  replace og := og.drewN nd
  replace of : OwnV (w4.drewN nd) gf L.length L := of
  replace A4 := A4.drewN nd
  replace HX4 : Hid ((w4.drewN nd).heap[X]? = _) := HX4
  generalize w4.drewN nd = w5 at ow ox og of A4 HX4 ⊢
  go_wp2_with fail
  refine (toByteS_own p cp bs w5 (HRD.out _ A4.bel) (by omega)).mono ?_
  rintro e w6 ⟨rfl, ot, b6⟩
  replace ow := ow.later b6
  replace ox := ox.later b6
  replace og := og.later b6
  replace of := of.later b6
  have A6 := A4.keep b6
  have HX6 := hide (box_step HX4.out b6)
  clear A4 HX4
  go_wp2_with fail
  refine (eqByteS_own _ _ _ _ bs bs w6 ox ot (by omega) (by omega)).mono ?_
  rintro e w7 ⟨rfl, nd2, rfl⟩
  replace ow := ow.drewN nd2
  replace ox := ox.drewN nd2
  replace og := og.drewN nd2
  replace of : OwnV (w6.drewN nd2) gf L.length L := of
  replace A6 := A6.drewN nd2
  replace HX6 : Hid ((w6.drewN nd2).heap[X]? = _) := HX6
  clear ot b6
  generalize w6.drewN nd2 = w7 at ow ox og of A6 HX6 ⊢
  obtain ⟨x0, x1, -, -⟩ := box2_cell A6.box
  obtain ⟨y0, y1, -, -⟩ := box2_cell HX6.out
  have HA7 := hide A6.drew
  have HF7 : Hid (OwnV w7.drew gf L.length L) := of
  have HX7 : Hid (w7.drew.heap[X]? = some (.cells #[.string kd, .slice (some ⟨gf, 0, none⟩) L.length L.length] 29 (0, 0))) := HX6.out
  go_wp2_with fail
  go_region_held3 (fun W => (W.cell? ⟨w.heap.size, 0, none⟩ = some (.string kd) ∧ W.cell? ⟨w.heap.size, 1, none⟩ = some (.slice a L.length cap)) ∧ W.cell? ⟨X, 0, none⟩ = some (.string kd) ∧ W.cell? ⟨X, 1, none⟩ = some (.slice (some ⟨gf, 0, none⟩) L.length L.length)) (first | exact ⟨⟨x0, x1⟩, y0, y1⟩ | exact ⟨two_cells (HA7.out.keep b8).box, two_cells (box_step HX7.out b8)⟩ | exact ⟨two_cells ((HA7.out.keep b8).keep b9).box, two_cells (box_step (box_step HX7.out b8) b9)⟩)
    (first | (go_at_call 8; refine (toFact_any kd a cap L _ (HRV.out _ HA7.out.bel) hn).mono ?_; rintro e w8 ⟨g8, rfl, l8, o8, b8⟩) | (go_at_call 10; refine (eqFact_same kd _ _ _ _ L _ (HF7.out.later b8).rd o8.rd (by omega)).mono ?_; rintro e w9 ⟨rfl, b9⟩))
  have A9 := (HA7.out.keep b8).keep b9
  have HX9 := hide (box_step (box_step HX7.out b8) b9)
  have ow9 := (Own.later (w := w7.drew) ow b8).later b9
  have ox9 := (Own.later (w := w7.drew) ox b8).later b9
  have og9 := (Own.later (w := w7.drew) og b8).later b9
  have of9 := (HF7.out.later b8).later b9
  clear ow ox og of A6 HX6 HA7 HF7 HX7 x0 x1 y0 y1 b8 b9 o8 l8
  go_wp2_with fail
  refine (markByteS_own _ _ 1 bs w9 ox9 (by omega) (by omega)).mono ?_
  rintro e w10 ⟨rfl, ox10, gr10⟩
  have ow10 := ow9.grown gr10 nwx
  have og10 := og9.grown gr10 (by omega)
  have of10 := of9.grown gr10 (fun e => Own.gf ox9 of9 e.symm)
  have A10 := A9.grown gr10 lx2
  have HX10 := hide (box_gr HX9.out gr10 (by omega))
  clear ow9 og9 of9 A9 HX9 gr10 ox9 ox10
  obtain ⟨y0, y1, -, -⟩ := box2_cell HX10.out
  go_wp2_with fail
  refine (markFact_i kd gf _ _ (1 + bs.length) L w10 of10 (by omega) (by omega) (by simp)).mono ?_
  rintro e w11 ⟨⟨kk, rfl, hkk⟩, -, hoth, bm⟩
  have ow11 := Own.other ow10 hoth (Own.gf ow10 of10)
  have og11 := Own.other og10 hoth (Own.gf og10 of10)
  have A11 : Arg w kd a L.length cap w11 := ⟨by rw [hoth _ A10.lt (by omega)]; exact A10.box, A10.bel.trans (bm.mono (by omega))⟩
  clear ow10 og10 of10 A10 HX10 hoth bm y0 y1
  have q1 : ¬ ((kk : Int) < 0) := by omega
  go_wp2_with fail
  refine (eqByteS_own gg gw cg cw E E w11 og11 ow11 (by omega) (by omega)).mono ?_
  rintro e w12 ⟨rfl, nd3, rfl⟩
  replace ow11 := ow11.drewN nd3
  replace og11 := og11.drewN nd3
  replace A11 := A11.drewN nd3
  generalize w11.drewN nd3 = w12 at ow11 og11 A11 ⊢
  go_wp2_with fail
  refine (markByteS_own _ _ 1 E w12 og11 (by omega) (by omega)).mono ?_
  rintro e w13 ⟨rfl, om, gr13⟩
  have ow13 := ow11.grown gr13 (by omega)
  have A13 := A11.grown gr13 (by omega)
  clear ow11 og11 A11 gr13
  go_wp2_with fail
  refine (heldByteS_own gg E.length cg 1 w13 om (by omega) (by omega)).mono ?_
  rintro e w14 ⟨rfl, rfl⟩
  have q2 : ¬ (((1 + E.length : Nat) : Int) < 0) := by omega
  have q3 : (((1 + E.length : Nat) : Int) != ((1 + E.length : Nat) : Int)) = false := by simp
  obtain ⟨x0, x1, -, -⟩ := box2_cell A13.box
  have HA1 := hide A13.drew
  have HP1 := hide (HRD.out _ A13.drew.bel)
  go_wp2_with fail
  go_region_held3 (fun W => W.cell? ⟨w.heap.size, 0, none⟩ = some (.string kd) ∧ W.cell? ⟨w.heap.size, 1, none⟩ = some (.slice a L.length cap)) (first | exact ⟨x0, x1⟩ | exact two_cells (HA1.out.keep b2).box | exact two_cells ((HA1.out.keep b2).keep b3).box | exact two_cells (((HA1.out.keep b2).keep b3).keep b4).box)
    (first | (go_at_call 12; refine (toByteS_ex p cp bs _ ?_ (by omega)).mono ?_; (with_reducible exact HP1.out); rintro e u2 ⟨g2, rfl, l2, o2, b2⟩) | (go_at_call 8; refine (toFact_any kd a cap L _ (HRV.out _ (HA1.out.keep b2).bel) hn).mono ?_; rintro e u3 ⟨g3, rfl, l3, o3, b3⟩) | (go_at_call 13; refine (implPutFact_own g2 _ kd g3 _ L bs E _ ?_ ?_ (by omega) hk3 hsz2 HE.out).mono ?_; (with_reducible exact o2.later b3); (with_reducible exact o3); rintro e w15 ⟨gh, ch, rfl, lh, oh, b4⟩))
  have B15 := (((HA1.out.keep b2).keep b3).keep b4).bel
  have ow15 := ((Own.later (w := w14.drew) ow13 b2).later b3).later b4
  have om15 := ((Own.later (w := w14.drew) om b2).later b3).later b4
  clear x0 x1 HA1 HP1 b2 b3 b4 o2 o3 l2 l3 ow13 om A13
  go_wp2_with fail
  refine (eqByteS_own gh gw ch cw E E w15 oh ow15 (by omega) (by omega)).mono ?_
  rintro e w16 ⟨rfl, nd4, rfl⟩
  replace om15 := om15.drewN nd4
  replace B15 := B15.trans (below_drewN _ _ nd4)
  generalize w15.drewN nd4 = w16 at om15 B15 ⊢
  go_wp2_with fail
  refine (heldByteS_own gg E.length cg 1 w16 om15 (by omega) (by omega)).mono ?_
  rintro e w17 ⟨rfl, rfl⟩
  go_wp2
  go_ret
  exact ⟨rfl, B15⟩

theorem walk (p : Option Addr) (len0 cap0 : Nat) (z0 : List Int) (kd : ByteArray) (a : Option Addr) (len cap : Nat) (L : List V3) (w : World) (w0 : IsRow .u8 w p len0 cap0 z0) (hkd : kd.size ≤ maxLen) (hv : IsVals w a len cap L) :
    Calls Try.prog 4 #[.slice p len0 cap0, .agg #[.string kd, .slice a len cap]] w fun e w' => e = .returned (.bool true) ∧ Below w.heap.size w w' := by
  obtain ⟨bs, hl, hr⟩ := rd_row w0
  have hm : len0 ≤ maxLen := isRow_len w0
  subst hl
  obtain ⟨rfl, hml, hrv, hs⟩ := hv
  exact law p cap0 kd a cap L bs w hr hm hkd hrv hs hml

theorem own : ownKnob Try.prog.godebug = none := by kernel_rfl
theorem laidOut : laidOutB Try.prog = true := by kernel_rfl

set_option maxRecDepth 100000 in
theorem lifted (os : Os) (started : os.Started) (H : Type) (enc : TypeId × Value → H) :
    ReturnsInHanded {} Try.checked os 4 .any (Rows.fnExactPutFactSpec.pre6 enc Try.prog Try.f4 Rows.fnExactPutFactRow.domain false) (Rows.fnExactPutFactSpec.post enc Try.prog Try.f4 false true false false) := by
  refine returnsInHanded_of_change (C := Try.checked) own started (by kernel_rfl) Try.func4
    (ChangeSpec.witness6 (enc := enc) (C := Try.checked) false ⟨#[], #[.slice none 0 0, .agg #[.string ByteArray.empty, .slice none 0 0]], []⟩ 8 (by kernel_rfl) (by kernel_rfl) (by kernel_rfl) (by kernel_rfl)) ?_
  intro W base args ds gs before hval0 hW hcnd _
  have hval : ∀ (j : Nat) t v, Try.f4.params[j]? = some t → args[j]? = some v → Value.okWide Try.prog W .any base t v := hval0
  have hW' := hW
  obtain ⟨p, q, hA0, hV, rfl, hfz, hnd⟩ := hW
  have hA : DataW.TrodAll enc Try.prog W 0 (fun _ => true) true Try.f4.params.toList args.toList ds p := hA0
  rw [Try.params4] at hA hval
  obtain ⟨v0, vs0, d0, ds0, p0, q0, hargs, rfl, rfl, h0, r0⟩ := trodAll_cons hA
  obtain ⟨v1, vs1, d1, ds1, p1, q1, rfl, rfl, rfl, h1, r1⟩ := trodAll_cons r0
  obtain ⟨rfl, rfl, rfl⟩ := trodAll_nil r1
  obtain rfl : args = #[v0, v1] := by cases args; simp_all
  obtain ⟨rfl, rfl⟩ := trodVars_none hV
  obtain ⟨a0, len0, cap0, rfl⟩ := okWide_slice Try.underlying32 (hval 0 32 v0 rfl rfl)
  have k0 := h0
  have lt0 : ∀ x ∈ p0, x.block < W.heap.size := by obtain ⟨m, hm⟩ := k0; exact DataW.trod_lt m _ _ _ hm
  obtain ⟨z0, w0⟩ : ∃ zs, IsRow .u8 W a0 len0 cap0 zs := by
    obtain ⟨fuel, hf⟩ := h0
    rcases open_ints Try.underlying32 Try.underlying5 (by kernel_rfl) hf with ⟨hcs, _⟩ | ⟨x, l, c, zs, hcs, _, hl, hm, hz, _, hcell, hwz⟩
    · simp [Value.cells] at hcs
      obtain ⟨rfl, rfl, rfl⟩ := hcs
      exact ⟨[], .inl ⟨rfl, rfl, rfl, rfl⟩⟩
    · simp [Value.cells] at hcs
      obtain ⟨rfl, rfl, rfl⟩ := hcs
      exact ⟨zs, .inr ⟨_, rfl, hl, hm, by simpa using hz, hcell, hwz⟩⟩
  have k1 := h1
  have lt1 : ∀ x ∈ p1, x.block < W.heap.size := by obtain ⟨m, hm⟩ := k1; exact DataW.trod_lt m _ _ _ hm
  obtain ⟨c1a, c1b, y1a, y1b, m1, rfl, _, _, hy1a, hy1b⟩ := open_agg2 Try.underlying24 (by kernel_rfl) (by kernel_rfl) (hval 1 24 v1 rfl rfl) h1
  obtain ⟨S1, eS1, _, wS1⟩ := DataW.trod_string Try.underlying9 hy1a
  simp only [List.cons.injEq, and_true] at eS1
  subst eS1
  obtain ⟨a1, len1, cap1, L1, rfl, w1⟩ := vals_in hy1b
  clear hA0 hval0
  refine (walk a0 len0 cap0 z0 S1 a1 len1 cap1 L1 W w0 wS1 w1).mono fun e W' ⟨he, bel⟩ => ?_
  subst he
  exact ⟨_, rfl, _, _, _, [], _, [], hW', trodAll_mk1 (shut_bool Try.underlying4 _), (trodAll_cons_mk (Below.trod laidOut (by kernel_rfl) (of_decide_eq_true (by kernel_rfl)) k0 bel lt0) (trodAll_cons_mk (Below.trod laidOut (by kernel_rfl) (of_decide_eq_true (by kernel_rfl)) k1 bel lt1) trodAll_mk0)), rfl, bel.frame _, fun h => by cases h⟩

theorem over : Rows.fnExactPutFactRow.holds Try.pinned (OpenSpec.ofChange Rows.fnExactPutFactSpec) :=
  OpenClaim.holds_of_wide 4 Try.f4 rfl rfl rfl rfl rfl rfl rfl ⟨rfl, rfl, rfl, rfl, rfl⟩ rfl rfl rfl rfl rfl (by kernel_rfl) Try.func4 (by kernel_rfl)
    (of_decide_eq_true (by kernel_rfl)) (by unfold Func.isWrapper; first | (rw [if_pos (by decide +kernel)]; kernel_rfl) | (rw [if_neg (by decide +kernel)]; exact ⟨rfl, rfl⟩))
    (fun os started H enc _ => lifted os started H enc)
end Go.Proofs.Ytddcmifebhdgfab.ExPutFact
namespace Go.Proofs.Ytddcmifebhdgfab
theorem fnExactPutFact_holds : Rows.FnExactPutFactSaid := ExPutFact.over
#print axioms fnExactPutFact_holds
end Go.Proofs.Ytddcmifebhdgfab
