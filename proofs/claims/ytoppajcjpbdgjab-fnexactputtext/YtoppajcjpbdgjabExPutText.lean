/-
  Proved: for every row of bytes and every text, the law on PutText answers true (the tested function answers as its model, writes into no argument, and its answer owns its memory), and the arguments read as they did. No condition.
-/
import Derived.Test.YtoppajcjpbdgjabOwn
import Derived.Test.YtoppajcjpbdgjabPutTextS
import Derived.Test.YtoppajcjpbdgjabPutTextI
import Derived.ProofKit
import Derived.OpenShut
import Derived.ShutString
import Derived.ChangeOld
import Derived.Below
namespace Go.Proofs.Ytoppajcjpbdgjab.ExPutText
open Go.ChangeShapes Go.WideShapes Go.ChangeAt Go.RowKit
open Go.ChangeMaps (open_string shut_string)
set_option linter.unusedVariables false

theorem encT_pos (s : ByteArray) : 0 < (encT s).length := by have := encG_pos 5 (foldN (clampN s.size)); simp [encT, encN]; omega

theorem specPutText_own (g cap : Nat) (s : ByteArray) (bs : List UInt8) (w : World) (h : Own w g cap bs) (hn : bs.length ≤ 1048580) (hs : s.size ≤ 1048580) :
    Calls Try.prog 17 #[.slice (some ⟨g, 0, none⟩) bs.length cap, .string s] w fun e w' =>
      ∃ g' c', e = .returned (.slice (some ⟨g', 0, none⟩) (bs ++ encT s).length c') ∧ w.heap.size ≤ g' ∧ Own w' g' c' (bs ++ encT s) ∧ Below w.heap.size w w' :=
  (specPutText_some _ cap s bs w h.rd hn hs).mono fun e w' ⟨v, he, ho, hb⟩ => by
    obtain ⟨g', c', hv, hg, ho'⟩ := owns_own ho (by have := encT_pos s; simp; omega)
    exact ⟨g', c', by rw [he, hv], hg, ho', hb⟩
theorem implPutText_own (g cap : Nat) (s : ByteArray) (bs : List UInt8) (w : World) (h : Own w g cap bs) (hn : bs.length ≤ 1048580) (hs : s.size ≤ 1048580) :
    Calls Try.prog 18 #[.slice (some ⟨g, 0, none⟩) bs.length cap, .string s] w fun e w' =>
      ∃ g' c', e = .returned (.slice (some ⟨g', 0, none⟩) (bs ++ encT s).length c') ∧ w.heap.size ≤ g' ∧ Own w' g' c' (bs ++ encT s) ∧ Below w.heap.size w w' :=
  (implPutText_any _ cap s bs w h.rd hn hs).mono fun e w' ⟨v, he, ho, hb⟩ => by
    obtain ⟨g', c', hv, hg, ho'⟩ := owns_own ho (by have := encT_pos s; simp; omega)
    exact ⟨g', c', by rw [he, hv], hg, ho', hb⟩

set_option maxHeartbeats 1600000 in
theorem law (a : Option Addr) (cap : Nat) (s : ByteArray) (bs : List UInt8) (w : World) (hr : Rd w a bs) (hm : bs.length ≤ maxLen) (hms : s.size ≤ maxLen) :
    Calls Try.prog 5 #[.slice a bs.length cap, .string s] w fun e w' => e = .returned (.bool true) ∧ Below w.heap.size w w' := by
  unfold maxLen at hm hms
  by_cases hb : 1048576 < bs.length
  · go_enter Try.func5, Try.ntmps5
    go_wp2
    go_ret
    exact ⟨rfl, Below.refl _ _⟩
  · by_cases hbs : 1048576 < s.size
    · go_enter Try.func5, Try.ntmps5
      go_wp2
      go_ret
      exact ⟨rfl, Below.refl _ _⟩
    have hE := encT_length s
    obtain ⟨E, HE⟩ : ∃ E, Hid (bs ++ encT s = E) := ⟨_, rfl⟩
    have hEl : E.length ≤ 2097160 := by rw [← HE.out]; simp; omega
    have hself : decide (E = E) = true := by simp
    have hself2 : decide (bs = bs) = true := by simp
    go_enter Try.func5, Try.ntmps5
    go_wp2_with fail
    refine (toByteS_own a cap bs w hr (by omega)).mono ?_
    rintro e w1 ⟨rfl, o1, b1⟩
    go_wp2_with fail
    refine (specPutText_own _ _ s bs w1 o1 (by omega) (by omega)).mono ?_
    rw [HE.out]
    rintro e w2 ⟨gw, cw, rfl, lw, ow, b2⟩
    have B2 : Below w.heap.size w w2 := b1.trans (b2.mono b1.size)
    clear o1
    go_wp2_with fail
    refine (toByteS_own a cap bs w2 (hr.below B2) (by omega)).mono ?_
    rintro e w3 ⟨rfl, ox, b3⟩
    have B3 : Below w.heap.size w w3 := B2.trans (b3.mono B2.size)
    have ltw := ow.lt
    replace ow := ow.later b3
    go_wp2_with fail
    refine (implPutText_own _ _ s bs w3 ox (by omega) (by omega)).mono ?_
    rw [HE.out]
    rintro e w4 ⟨gg, cg, rfl, lg, og, b4⟩
    have B4 : Below w.heap.size w w4 := B3.trans (b4.mono B3.size)
    have ltx := ox.lt
    replace ow := ow.later b4
    replace ox := ox.later b4
    go_wp2_with fail
    refine (eqByteS_own gg gw cg cw E E w4 og ow (by omega) (by omega)).mono ?_
    rintro e w5 ⟨rfl, nd, rfl⟩
    replace ow := ow.drewN nd
    replace ox := ox.drewN nd
    replace og := og.drewN nd
    replace B4 := B4.trans (below_drewN _ _ nd)
    generalize w4.drewN nd = w5 at ow ox og B4 ⊢
    go_wp2_with fail
    refine (toByteS_own a cap bs w5 (hr.below B4) (by omega)).mono ?_
    rintro e w6 ⟨rfl, ot, b6⟩
    replace ow := ow.later b6
    replace ox := ox.later b6
    replace og := og.later b6
    have B6 : Below w.heap.size w w6 := B4.trans (b6.mono B4.size)
    go_wp2_with fail
    refine (eqByteS_own _ _ _ _ bs bs w6 ox ot (by omega) (by omega)).mono ?_
    rintro e w7 ⟨rfl, nd2, rfl⟩
    replace ow := ow.drewN nd2
    replace ox := ox.drewN nd2
    replace og := og.drewN nd2
    replace B6 := B6.trans (below_drewN _ _ nd2)
    clear ot
    generalize w6.drewN nd2 = w7 at ow ox og B6 ⊢
    go_wp2_with fail
    refine (markByteS_own _ _ 1 bs w7 ox (by omega) (by omega)).mono ?_
    rintro e w8 ⟨rfl, ox8, gr8⟩
    replace ow := ow.grown gr8 (by omega)
    replace og := og.grown gr8 (by omega)
    have B8 : Below w.heap.size w w8 := B6.trans (below_grown gr8 B6.size (by have := B2.size; omega))
    clear ox ox8 gr8
    have q1 : ¬ (((1 + bs.length : Nat) : Int) < 0) := by omega
    go_wp2_with fail
    refine (eqByteS_own gg gw cg cw E E w8 og ow (by omega) (by omega)).mono ?_
    rintro e w9 ⟨rfl, nd3, rfl⟩
    replace ow := ow.drewN nd3
    replace og := og.drewN nd3
    replace B8 := B8.trans (below_drewN _ _ nd3)
    generalize w8.drewN nd3 = w9 at ow og B8 ⊢
    go_wp2_with fail
    refine (markByteS_own _ _ 1 E w9 og (by omega) (by omega)).mono ?_
    rintro e w10 ⟨rfl, om, gr10⟩
    replace ow := ow.grown gr10 (by omega)
    have B10 : Below w.heap.size w w10 := B8.trans (below_grown gr10 B8.size (by have := B3.size; omega))
    clear og gr10
    go_wp2_with fail
    refine (heldByteS_own gg E.length cg 1 w10 om (by omega) (by omega)).mono ?_
    rintro e w11 ⟨rfl, rfl⟩
    have q2 : ¬ (((1 + E.length : Nat) : Int) < 0) := by omega
    have q3 : (((1 + E.length : Nat) : Int) != ((1 + E.length : Nat) : Int)) = false := by simp
    go_wp2_with fail
    refine (toByteS_own a cap bs w11 (hr.below B10) (by omega)).mono ?_
    rintro e w12 ⟨rfl, o12, b12⟩
    have B12 : Below w.heap.size w w12 := B10.trans (b12.mono B10.size)
    replace ow := ow.later b12
    replace om := om.later b12
    go_wp2_with fail
    refine (implPutText_own _ _ s bs w12 o12 (by omega) (by omega)).mono ?_
    rw [HE.out]
    rintro e w13 ⟨gh, ch, rfl, lh, oh, b13⟩
    have B13 : Below w.heap.size w w13 := B12.trans (b13.mono B12.size)
    replace ow := ow.later b13
    replace om := om.later b13
    go_wp2_with fail
    refine (eqByteS_own gh gw ch cw E E w13 oh ow (by omega) (by omega)).mono ?_
    rintro e w14 ⟨rfl, nd4, rfl⟩
    replace om := om.drewN nd4
    replace B13 := B13.trans (below_drewN _ _ nd4)
    generalize w13.drewN nd4 = w14 at om B13 ⊢
    go_wp2_with fail
    refine (heldByteS_own gg E.length cg 1 w14 om (by omega) (by omega)).mono ?_
    rintro e w15 ⟨rfl, rfl⟩
    go_wp2
    go_ret
    exact ⟨rfl, B13⟩

theorem walk (a0 : Option Addr) (len0 cap0 : Nat) (z0 : List Int) (a1 : ByteArray) (w : World) (w0 : IsRow .u8 w a0 len0 cap0 z0) (w1 : a1.size ≤ maxLen) :
    Calls Try.prog 5 #[.slice a0 len0 cap0, .string a1] w fun e w' => e = .returned (.bool true) ∧ Below w.heap.size w w' := by
  obtain ⟨bs, hl, hr⟩ := rd_row w0
  have hm : len0 ≤ maxLen := isRow_len w0
  subst hl
  exact law a0 cap0 a1 bs w hr hm w1

theorem own : ownKnob Try.prog.godebug = none := by kernel_rfl
theorem laidOut : laidOutB Try.prog = true := by kernel_rfl

set_option maxRecDepth 100000 in
theorem lifted (os : Os) (started : os.Started) (H : Type) (enc : TypeId × Value → H) :
    ReturnsInHanded {} Try.checked os 5 .any (Rows.fnExactPutTextSpec.pre6 enc Try.prog Try.f5 Rows.fnExactPutTextRow.domain false) (Rows.fnExactPutTextSpec.post enc Try.prog Try.f5 false true false false) := by
  refine returnsInHanded_of_change (C := Try.checked) own started (by kernel_rfl) Try.func5
    (ChangeSpec.witness6 (enc := enc) (C := Try.checked) false ⟨#[], #[.slice none 0 0, .string ByteArray.empty], []⟩ 8 (by kernel_rfl) (by kernel_rfl) (by kernel_rfl) (by kernel_rfl)) ?_
  intro W base args ds gs before hval0 hW hcnd _
  have hval : ∀ (j : Nat) t v, Try.f5.params[j]? = some t → args[j]? = some v → Value.okWide Try.prog W .any base t v := hval0
  have hW' := hW
  obtain ⟨p, q, hA0, hV, rfl, hfz, hnd⟩ := hW
  have hA : DataW.TrodAll enc Try.prog W 0 (fun _ => true) true Try.f5.params.toList args.toList ds p := hA0
  rw [Try.params5] at hA hval
  obtain ⟨v0, vs0, d0, ds0, p0, q0, hargs, rfl, rfl, h0, r0⟩ := trodAll_cons hA
  obtain ⟨v1, vs1, d1, ds1, p1, q1, rfl, rfl, rfl, h1, r1⟩ := trodAll_cons r0
  obtain ⟨rfl, rfl, rfl⟩ := trodAll_nil r1
  obtain rfl : args = #[v0, v1] := by cases args; simp_all
  obtain ⟨rfl, rfl⟩ := trodVars_none hV
  obtain ⟨a0, len0, cap0, rfl⟩ := okWide_slice Try.underlying22 (hval 0 22 v0 rfl rfl)
  have k0 := h0
  have lt0 : ∀ x ∈ p0, x.block < W.heap.size := by obtain ⟨m, hm⟩ := k0; exact DataW.trod_lt m _ _ _ hm
  obtain ⟨z0, w0⟩ : ∃ zs, IsRow .u8 W a0 len0 cap0 zs := by
    obtain ⟨fuel, hf⟩ := h0
    rcases open_ints Try.underlying22 Try.underlying5 (by kernel_rfl) hf with ⟨hcs, _⟩ | ⟨x, l, c, zs, hcs, _, hl, hm, hz, _, hcell, hwz⟩
    · simp [Value.cells] at hcs
      obtain ⟨rfl, rfl, rfl⟩ := hcs
      exact ⟨[], .inl ⟨rfl, rfl, rfl, rfl⟩⟩
    · simp [Value.cells] at hcs
      obtain ⟨rfl, rfl, rfl⟩ := hcs
      exact ⟨zs, .inr ⟨_, rfl, hl, hm, by simpa using hz, hcell, hwz⟩⟩
  obtain ⟨a1, rfl, rfl, rfl, w1⟩ := open_string Try.underlying9 (hval 1 9 v1 rfl rfl) h1
  clear hA0 hval0
  refine (walk a0 len0 cap0 z0 a1 W w0 w1).mono fun e W' ⟨he, bel⟩ => ?_
  subst he
  exact ⟨_, rfl, _, _, _, [], _, [], hW', trodAll_mk1 (shut_bool Try.underlying4 _), (trodAll_cons_mk (Below.trod laidOut (by kernel_rfl) (of_decide_eq_true (by kernel_rfl)) k0 bel lt0) (trodAll_cons_mk (shut_string Try.underlying9 w1) trodAll_mk0)), rfl, bel.frame _, fun h => by cases h⟩

theorem over : Rows.fnExactPutTextRow.holds Try.pinned (OpenSpec.ofChange Rows.fnExactPutTextSpec) :=
  OpenClaim.holds_of_wide 5 Try.f5 rfl rfl rfl rfl rfl rfl rfl ⟨rfl, rfl, rfl, rfl, rfl⟩ rfl rfl rfl rfl rfl (by kernel_rfl) Try.func5 (by kernel_rfl)
    (of_decide_eq_true (by kernel_rfl)) (by unfold Func.isWrapper; first | (rw [if_pos (by decide +kernel)]; kernel_rfl) | (rw [if_neg (by decide +kernel)]; exact ⟨rfl, rfl⟩))
    (fun os started H enc _ => lifted os started H enc)
end Go.Proofs.Ytoppajcjpbdgjab.ExPutText
namespace Go.Proofs.Ytoppajcjpbdgjab
theorem fnExactPutText_holds : Rows.FnExactPutTextSaid := ExPutText.over
#print axioms fnExactPutText_holds
end Go.Proofs.Ytoppajcjpbdgjab
