/-
  Proved: for every row of bytes and every value, the law on PutVal answers true (the tested function answers as its model, writes into no argument, and its answer owns its memory), and the arguments read as they did. No condition.
-/
import Derived.Test.YtoppajcjpbdgjacOwn
import Derived.Test.YtoppajcjpbdgjacPutValS
import Derived.Test.YtoppajcjpbdgjacPutValI
import Derived.Test.YtoppajcjpbdgjacLawVal
import Derived.Deep.RegionHeld3
import Derived.Lib.SmallJoins
import Derived.ProofKit
import Derived.OpenShut
import Derived.ShutString
import Derived.ChangeOld
import Derived.Below
namespace Go.Proofs.Ytoppajcjpbdgjac.ExPutVal
open Go.ChangeShapes Go.WideShapes Go.ChangeAt Go.RowKit Go.Joins
open Go.ChangeMaps (open_string shut_string)
set_option linter.unusedVariables false

theorem specPutVal_own (g cap : Nat) (K N : Int) (S : ByteArray) (bs : List UInt8) (w : World) (h : Own w g cap bs) (hn : bs.length ≤ 1048580) (hs : S.size ≤ 1048580) :
    Calls Try.prog 13 #[.slice (some ⟨g, 0, none⟩) bs.length cap, .agg #[.int .i64 K, .int .i64 N, .string S]] w fun e w' =>
      ∃ g' c', e = .returned (.slice (some ⟨g', 0, none⟩) (bs ++ encV K N S).length c') ∧ w.heap.size ≤ g' ∧ Own w' g' c' (bs ++ encV K N S) ∧ Below w.heap.size w w' :=
  (specPutVal_some _ cap K N S bs w h.rd hn hs).mono fun e w' ⟨v, he, ho, hb⟩ => by
    obtain ⟨g', c', hv, hg, ho'⟩ := owns_own ho (by have := encV_pos K N S; simp; omega)
    exact ⟨g', c', by rw [he, hv], hg, ho', hb⟩
theorem implPutVal_own (g cap : Nat) (K N : Int) (S : ByteArray) (bs : List UInt8) (w : World) (h : Own w g cap bs) (hn : bs.length ≤ 1048580) (hs : S.size ≤ 1048580) :
    Calls Try.prog 15 #[.slice (some ⟨g, 0, none⟩) bs.length cap, .agg #[.int .i64 K, .int .i64 N, .string S]] w fun e w' =>
      ∃ g' c', e = .returned (.slice (some ⟨g', 0, none⟩) (bs ++ encV K N S).length c') ∧ w.heap.size ≤ g' ∧ Own w' g' c' (bs ++ encV K N S) ∧ Below w.heap.size w w' :=
  (implPutVal_any _ cap K N S bs w h.rd hn hs).mono fun e w' ⟨v, he, ho, hb⟩ => by
    obtain ⟨g', c', hv, hg, ho'⟩ := owns_own ho (by have := encV_pos K N S; simp; omega)
    exact ⟨g', c', by rw [he, hv], hg, ho', hb⟩
theorem toByteS_ex (a : Option Addr) (cap : Nat) (bs : List UInt8) (w : World) (hr : Rd w a bs) (hn : bs.length ≤ 1048576) :
    Calls Try.prog 14 #[.slice a bs.length cap] w fun e w' =>
      ∃ g, e = .returned (.slice (some ⟨g, 0, none⟩) bs.length bs.length) ∧ w.heap.size ≤ g ∧ Own w' g bs.length bs ∧ Below w.heap.size w w' :=
  (toByteS_own a cap bs w hr hn).mono fun e w' h => ⟨_, h.1, Nat.le_refl _, h.2.1, h.2.2⟩
theorem box_step {w w' : World} {R : Nat} {o : Obj} (h : w.heap[R]? = some o) (hb : Below w.heap.size w w') : w'.heap[R]? = some o := box_below h hb (Array.getElem?_eq_some_iff.1 h).1
theorem box_grown {w w' : World} {R q : Nat} {o : Obj} (h : w.heap[R]? = some o) (hg : w.grownBy w' (some q)) (hne : R ≠ q) : w'.heap[R]? = some o := by
  rw [hg.block R (Array.getElem?_eq_some_iff.1 h).1 (by simp; omega)]; exact h
theorem keep3 {w0 W w' : World} {a0 a1 a2 : Addr} {v0 v1 v2 : Value} {B : Nat} (hb : Below W.heap.size W w') (h : W.cell? a0 = some v0 ∧ W.cell? a1 = some v1 ∧ W.cell? a2 = some v2 ∧ Below B w0 W ∧ B ≤ W.heap.size) :
    w'.cell? a0 = some v0 ∧ w'.cell? a1 = some v1 ∧ w'.cell? a2 = some v2 ∧ Below B w0 w' ∧ B ≤ w'.heap.size := by
  have k : ∀ {a : Addr} {v : Value}, W.cell? a = some v → w'.cell? a = some v := fun {a v} h => by rw [hb.cell (World.block_lt_of_cell? W _ h)]; exact h
  exact ⟨k h.1, k h.2.1, k h.2.2.1, h.2.2.2.1.trans (hb.mono h.2.2.2.2), Nat.le_trans h.2.2.2.2 hb.size⟩

set_option maxRecDepth 100000 in
set_option maxHeartbeats 3200000 in
theorem law (a : Option Addr) (cap : Nat) (K N : Int) (S : ByteArray) (bs : List UInt8) (w : World) (hr : Rd w a bs) (hm : bs.length ≤ maxLen) (hms : S.size ≤ maxLen) :
    Calls Try.prog 5 #[.slice a bs.length cap, .agg #[.int .i64 K, .int .i64 N, .string S]] w fun e w' => e = .returned (.bool true) ∧ Below w.heap.size w w' := by
  have hms' := hms
  unfold maxLen at hm hms
  by_cases hb : 1048576 < bs.length
  · go_enter Try.func5, Try.ntmps5
    go_wp2
    go_ret
    exact ⟨rfl, by go_grown⟩
  · have hE := encV_length K N S
    obtain ⟨E, HE⟩ : ∃ E, Hid (bs ++ encV K N S = E) := ⟨_, rfl⟩
    have hEl : E.length ≤ bs.length + 12 + S.size := by rw [← HE.out]; simp; omega
    have hself : decide (E = E) = true := by simp
    have hself2 : decide (bs = bs) = true := by simp
    clear hE
    have HRD : Hid (∀ W, Below w.heap.size w W → Rd W a bs) := fun W h => hr.below h
    go_enter Try.func5, Try.ntmps5
    go_wp2_with fail
    refine (szVal_any K N S 1048576 _ hms' (by omega) (by omega)).mono ?_
    rintro e w1 ⟨rfl, hb1⟩
    have HV1 := hide (box_step (box_new w (.int .i64 K) (.int .i64 N) (.string S) 23) hb1)
    have B1 : Below w.heap.size w w1 := ((Below.refl w.heap.size w).alloc (Nat.le_refl _) _).trans (hb1.mono (by simp))
    have z1 : w.heap.size + 1 ≤ w1.heap.size := by have := hb1.size; simp at this; omega
    clear hb1
    by_cases h1 : (1048576 : Int) - (S.size : Int) < 0
    · rw [if_pos h1]
      go_wp2
      go_ret
      exact ⟨rfl, B1⟩
    rw [if_neg h1]
    have hS2 : S.size ≤ 1048576 := by omega
    have hEl2 : E.length ≤ 2097170 := by omega
    obtain ⟨a0, a1, a2, -, -, -⟩ := box_cell HV1.out
    have HR1 : Hid (Rd w1.drew a bs) := HRD.out _ B1.drew
    have zz := B1.size
    go_wp2_with fail
    go_region_held3 (fun w' => w'.cell? ⟨w.heap.size, 0, none⟩ = some (.int .i64 K) ∧ w'.cell? ⟨w.heap.size, 1, none⟩ = some (.int .i64 N) ∧ w'.cell? ⟨w.heap.size, 2, none⟩ = some (.string S) ∧ Below w.heap.size w w' ∧ w.heap.size ≤ w'.heap.size) (first | exact ⟨a0, a1, a2, B1.drew, zz⟩ | exact keep3 (by assumption) (by assumption))
      (first | (go_at_call 14; refine (toByteS_ex a cap bs _ ?_ (by omega)).mono ?_; (with_reducible exact HR1.out); rintro e u2 ⟨g2, rfl, l2, o2, b2⟩) | (go_at_call 9; refine (toVal_any _ _ _ _).mono ?_; rintro e u3 ⟨rfl, b3⟩) | (go_at_call 13; refine (specPutVal_own g2 _ K N S bs _ ?_ (by omega) (by omega)).mono ?_; (with_reducible exact o2.later b3); rw [HE.out]; rintro e u4 ⟨gw, cw, rfl, lw, ow, b4⟩))
    have HVu : Hid (u4.heap[w.heap.size]? = some (.cells #[.int .i64 K, .int .i64 N, .string S] 23 (0, 0))) := box_step (box_step (box_step (w := w1.drew) HV1.out b2) b3) b4
    obtain ⟨-, -, -, Bu, zu⟩ : u4.cell? ⟨w.heap.size, 0, none⟩ = some (.int .i64 K) ∧ u4.cell? ⟨w.heap.size, 1, none⟩ = some (.int .i64 N) ∧ u4.cell? ⟨w.heap.size, 2, none⟩ = some (.string S) ∧ Below w.heap.size w u4 ∧ w.heap.size ≤ u4.heap.size := by assumption
    have lu : w.heap.size < u4.heap.size := (Array.getElem?_eq_some_iff.1 HVu.out).1
    have lw2 : w.heap.size < gw := by have := b2.size; have := b3.size; have e1 : w1.drew.heap.size = w1.heap.size := rfl; omega
    clear a0 a1 a2 HR1 zz B1 z1 b2 b3 b4 o2 l2 HV1 lw
    go_wp2_with fail
    refine (toByteS_ex a cap bs u4 (HRD.out _ Bu) (by omega)).mono ?_
    rintro e u5 ⟨gx, rfl, lx, ox, b5⟩
    have ltw := ow.lt
    replace ow := ow.later b5
    have HVv := hide (box_step HVu.out b5)
    have Bv : Below w.heap.size w u5 := Bu.trans (b5.mono zu)
    have zv := Bv.size
    have ltx := ox.lt
    clear HVu Bu b5
    obtain ⟨a0, a1, a2, -, -, -⟩ := box_cell HVv.out
    go_wp2_with fail
    refine (toVal_any K N S u5).mono ?_
    rintro e u6 ⟨rfl, b6⟩
    replace ow := ow.later b6
    replace ox := ox.later b6
    have HVx := hide (box_step HVv.out b6)
    have Bx : Below w.heap.size w u6 := Bv.trans (b6.mono zv)
    have zx := Bx.size
    have zx2 := b6.size
    clear HVv Bv b6 a0 a1 a2
    go_wp2_with fail
    refine (implPutVal_own gx _ K N S bs u6 ox (by omega) (by omega)).mono ?_
    rw [HE.out]
    rintro e w4 ⟨gg, cg, rfl, lg, og, b4⟩
    replace ow := ow.later b4
    replace ox := ox.later b4
    have HV4 := hide (box_step HVx.out b4)
    have B4 : Below w.heap.size w w4 := Bx.trans (b4.mono zx)
    clear HVx Bx b4
    go_wp2_with fail
    refine (eqByteS_own gg gw cg cw E E w4 og ow (by omega) (by omega)).mono ?_
    rintro e w5 ⟨rfl, nd, rfl⟩
    replace ow := ow.drewN nd
    replace ox := ox.drewN nd
    replace og := og.drewN nd
    replace B4 := B4.trans (below_drewN _ _ nd)
    have HV5 : Hid ((w4.drewN nd).heap[w.heap.size]? = some (.cells #[.int .i64 K, .int .i64 N, .string S] 23 (0, 0))) := HV4.out
    clear HV4
    generalize w4.drewN nd = w5 at ow ox og B4 HV5 ⊢
    go_wp2_with fail
    refine (toByteS_own a cap bs w5 (HRD.out _ B4) (by omega)).mono ?_
    rintro e w6 ⟨rfl, ot, b6⟩
    replace ow := ow.later b6
    replace ox := ox.later b6
    replace og := og.later b6
    have B6 : Below w.heap.size w w6 := B4.trans (b6.mono B4.size)
    have HV6 := hide (box_step HV5.out b6)
    clear HV5
    go_wp2_with fail
    refine (eqByteS_own _ _ _ _ bs bs w6 ox ot (by omega) (by omega)).mono ?_
    rintro e w7 ⟨rfl, nd2, rfl⟩
    replace ow := ow.drewN nd2
    replace ox := ox.drewN nd2
    replace og := og.drewN nd2
    replace B6 := B6.trans (below_drewN _ _ nd2)
    clear ot
    have HV7 : Hid ((w6.drewN nd2).heap[w.heap.size]? = some (.cells #[.int .i64 K, .int .i64 N, .string S] 23 (0, 0))) := HV6.out
    clear HV6
    generalize w6.drewN nd2 = w7 at ow ox og B6 HV7 ⊢
    go_wp2_with fail
    refine (markByteS_own _ _ 1 bs w7 ox (by omega) (by omega)).mono ?_
    rintro e w8 ⟨rfl, ox8, gr8⟩
    replace ow := ow.grown gr8 (by omega)
    replace og := og.grown gr8 (by omega)
    have B8 : Below w.heap.size w w8 := B6.trans (below_grown gr8 B6.size (by omega))
    have HV8 := hide (box_grown HV7.out gr8 (by omega))
    clear ox ox8 gr8 HV7
    have q1 : ¬ (((1 + bs.length : Nat) : Int) < 0) := by omega
    go_wp2_with fail
    refine (eqByteS_own gg gw cg cw E E w8 og ow (by omega) (by omega)).mono ?_
    rintro e w9 ⟨rfl, nd3, rfl⟩
    replace ow := ow.drewN nd3
    replace og := og.drewN nd3
    replace B8 := B8.trans (below_drewN _ _ nd3)
    have HV9 : Hid ((w8.drewN nd3).heap[w.heap.size]? = some (.cells #[.int .i64 K, .int .i64 N, .string S] 23 (0, 0))) := HV8.out
    clear HV8
    generalize w8.drewN nd3 = w9 at ow og B8 HV9 ⊢
    go_wp2_with fail
    refine (markByteS_own _ _ 1 E w9 og (by omega) (by omega)).mono ?_
    rintro e w10 ⟨rfl, om, gr10⟩
    replace ow := ow.grown gr10 (by omega)
    have B10 : Below w.heap.size w w10 := B8.trans (below_grown gr10 B8.size (by omega))
    have HV10 := hide (box_grown HV9.out gr10 (by omega))
    clear og gr10 HV9
    go_wp2_with fail
    refine (heldByteS_own gg E.length cg 1 w10 om (by omega) (by omega)).mono ?_
    rintro e w11 ⟨rfl, rfl⟩
    have q2 : ¬ (((1 + E.length : Nat) : Int) < 0) := by omega
    have q3 : (((1 + E.length : Nat) : Int) != ((1 + E.length : Nat) : Int)) = false := by simp
    obtain ⟨a0, a1, a2, -, -, -⟩ := box_cell HV10.out
    have HR1 : Hid (Rd w11.drew a bs) := HRD.out _ B10.drew
    have zz := B10.size
    go_wp2_with fail
    go_region_held3 (fun w' => w'.cell? ⟨w.heap.size, 0, none⟩ = some (.int .i64 K) ∧ w'.cell? ⟨w.heap.size, 1, none⟩ = some (.int .i64 N) ∧ w'.cell? ⟨w.heap.size, 2, none⟩ = some (.string S) ∧ Below w.heap.size w w' ∧ w.heap.size ≤ w'.heap.size) (first | exact ⟨a0, a1, a2, B10.drew, zz⟩ | exact keep3 (by assumption) (by assumption))
      (first | (go_at_call 14; refine (toByteS_ex a cap bs _ ?_ (by omega)).mono ?_; (with_reducible exact HR1.out); rintro e u2 ⟨g2, rfl, l2, o2, b2⟩) | (go_at_call 9; refine (toVal_any _ _ _ _).mono ?_; rintro e u3 ⟨rfl, b3⟩) | (go_at_call 15; refine (implPutVal_own g2 _ K N S bs _ ?_ (by omega) (by omega)).mono ?_; (with_reducible exact o2.later b3); rw [HE.out]; rintro e w13 ⟨gh, ch, rfl, lh, oh, b13⟩))
    obtain ⟨-, -, -, B13, -⟩ : w13.cell? ⟨w.heap.size, 0, none⟩ = some (.int .i64 K) ∧ w13.cell? ⟨w.heap.size, 1, none⟩ = some (.int .i64 N) ∧ w13.cell? ⟨w.heap.size, 2, none⟩ = some (.string S) ∧ Below w.heap.size w w13 ∧ w.heap.size ≤ w13.heap.size := by assumption
    replace ow := ((Own.later (w := w11.drew) ow b2).later b3).later b13
    replace om := ((Own.later (w := w11.drew) om b2).later b3).later b13
    clear a0 a1 a2 b2 b3 b13 o2 HR1
    go_wp2_with fail
    refine (eqByteS_own gh gw ch cw E E w13 oh ow (by omega) (by omega)).mono ?_
    rintro e w14 ⟨rfl, nd4, rfl⟩
    replace om := om.drewN nd4
    replace B13 := B13.trans (below_drewN _ _ nd4)
    generalize w13.drewN nd4 = w14 at om B13 ⊢
    go_wp2_with fail
    refine (heldByteS_own gg E.length cg 1 w14 om (by omega) (by omega)).mono ?_
    rintro e w15 ⟨rfl, rfl⟩
    go_wp2
    go_ret
    exact ⟨rfl, B13⟩

theorem walk (a0 : Option Addr) (len0 cap0 : Nat) (z0 : List Int) (K1 N1 : Int) (S1 : ByteArray) (w : World) (w0 : IsRow .u8 w a0 len0 cap0 z0) (w1 : S1.size ≤ maxLen) :
    Calls Try.prog 5 #[.slice a0 len0 cap0, .agg #[.int .i64 K1, .int .i64 N1, .string S1]] w fun e w' => e = .returned (.bool true) ∧ Below w.heap.size w w' := by
  obtain ⟨bs, hl, hr⟩ := rd_row w0
  have hm : len0 ≤ maxLen := isRow_len w0
  subst hl
  exact law a0 cap0 K1 N1 S1 bs w hr hm w1

theorem own : ownKnob Try.prog.godebug = none := by kernel_rfl
theorem laidOut : laidOutB Try.prog = true := by kernel_rfl

set_option maxRecDepth 100000 in
theorem lifted (os : Os) (started : os.Started) (H : Type) (enc : TypeId × Value → H) :
    ReturnsInHanded {} Try.checked os 5 .any (Rows.fnExactPutValSpec.pre6 enc Try.prog Try.f5 Rows.fnExactPutValRow.domain false) (Rows.fnExactPutValSpec.post enc Try.prog Try.f5 false true false false) := by
  refine returnsInHanded_of_change (C := Try.checked) own started (by kernel_rfl) Try.func5
    (ChangeSpec.witness6 (enc := enc) (C := Try.checked) false ⟨#[], #[.slice none 0 0, .agg #[.int .i64 0, .int .i64 0, .string ByteArray.empty]], []⟩ 8 (by kernel_rfl) (by kernel_rfl) (by kernel_rfl) (by kernel_rfl)) ?_
  intro W base args ds gs before hval0 hW hcnd _
  have hval : ∀ (j : Nat) t v, Try.f5.params[j]? = some t → args[j]? = some v → Value.okWide Try.prog W .any base t v := hval0
  have hW' := hW
  obtain ⟨p, q, hA0, hV, rfl, hfz, hnd⟩ := hW
  have hA : DataW.TrodAll enc Try.prog W 0 (fun _ => true) true Try.f5.params.toList args.toList ds p := hA0
  rw [Try.params5] at hA hval
  obtain ⟨v0, vs0, d0, ds0, p0, q0, hargs, rfl, rfl, h0, r0⟩ := trodAll_cons hA
  obtain ⟨v1, vs1, d1, ds1, p1, q1, rfl, rfl, rfl, h1, r1⟩ := trodAll_cons r0
  obtain ⟨rfl, rfl, rfl⟩ := trodAll_nil r1
  obtain rfl : args = #[v0, v1] := by cases args; simp_all
  obtain ⟨rfl, rfl⟩ := trodVars_none hV
  obtain ⟨a0, len0, cap0, rfl⟩ := okWide_slice Try.underlying31 (hval 0 31 v0 rfl rfl)
  have k0 := h0
  have lt0 : ∀ x ∈ p0, x.block < W.heap.size := by obtain ⟨m, hm⟩ := k0; exact DataW.trod_lt m _ _ _ hm
  obtain ⟨z0, w0⟩ : ∃ zs, IsRow .u8 W a0 len0 cap0 zs := by
    obtain ⟨fuel, hf⟩ := h0
    rcases open_ints Try.underlying31 Try.underlying5 (by kernel_rfl) hf with ⟨hcs, _⟩ | ⟨x, l, c, zs, hcs, _, hl, hm, hz, _, hcell, hwz⟩
    · simp [Value.cells] at hcs
      obtain ⟨rfl, rfl, rfl⟩ := hcs
      exact ⟨[], .inl ⟨rfl, rfl, rfl, rfl⟩⟩
    · simp [Value.cells] at hcs
      obtain ⟨rfl, rfl, rfl⟩ := hcs
      exact ⟨zs, .inr ⟨_, rfl, hl, hm, by simpa using hz, hcell, hwz⟩⟩
  have k1 := h1
  have lt1 : ∀ x ∈ p1, x.block < W.heap.size := by obtain ⟨m, hm⟩ := k1; exact DataW.trod_lt m _ _ _ hm
  obtain ⟨c1a, c1b, c1c, y1a, y1b, y1c, m1, rfl, _, _, hy1a, hy1b, hy1c⟩ := open_agg3 Try.underlying23 (by kernel_rfl) (by kernel_rfl) (hval 1 23 v1 rfl rfl) h1
  obtain ⟨K1, eK1, _, _⟩ := DataW.trod_int Try.underlying3 hy1a
  obtain ⟨N1, eN1, _, _⟩ := DataW.trod_int Try.underlying3 hy1b
  obtain ⟨S1, eS1, _, w1⟩ := DataW.trod_string Try.underlying9 hy1c
  simp only [List.cons.injEq, and_true] at eK1 eN1 eS1
  subst eK1 eN1 eS1
  clear hA0 hval0
  refine (walk a0 len0 cap0 z0 K1 N1 S1 W w0 w1).mono fun e W' ⟨he, bel⟩ => ?_
  subst he
  exact ⟨_, rfl, _, _, _, [], _, [], hW', trodAll_mk1 (shut_bool Try.underlying4 _), (trodAll_cons_mk (Below.trod laidOut (by kernel_rfl) (of_decide_eq_true (by kernel_rfl)) k0 bel lt0) (trodAll_cons_mk (Below.trod laidOut (by kernel_rfl) (of_decide_eq_true (by kernel_rfl)) k1 bel lt1) trodAll_mk0)), rfl, bel.frame _, fun h => by cases h⟩

theorem over : Rows.fnExactPutValRow.holds Try.pinned (OpenSpec.ofChange Rows.fnExactPutValSpec) :=
  OpenClaim.holds_of_wide 5 Try.f5 rfl rfl rfl rfl rfl rfl rfl ⟨rfl, rfl, rfl, rfl, rfl⟩ rfl rfl rfl rfl rfl (by kernel_rfl) Try.func5 (by kernel_rfl)
    (of_decide_eq_true (by kernel_rfl)) (by unfold Func.isWrapper; first | (rw [if_pos (by decide +kernel)]; kernel_rfl) | (rw [if_neg (by decide +kernel)]; exact ⟨rfl, rfl⟩))
    (fun os started H enc _ => lifted os started H enc)
end Go.Proofs.Ytoppajcjpbdgjac.ExPutVal
namespace Go.Proofs.Ytoppajcjpbdgjac
theorem fnExactPutVal_holds : Rows.FnExactPutValSaid := ExPutVal.over
#print axioms fnExactPutVal_holds
end Go.Proofs.Ytoppajcjpbdgjac
