/-
  Proved: for every row of bytes and every number, the law on GetFact answers true (the tested function answers as its model, writes into no argument, and its answer owns its memory), and the arguments read as they did. No condition.
-/
import Derived.Test.YtaflokfgbmlmaabOwn
import Derived.Test.YtaflokfgbmlmaabGetFact
import Derived.Test.YtaflokfgbmlmaabHeldF
import Derived.Test.YtaflokfgbmlmaabToFact
import Derived.ProofKit
import Derived.OpenShut
import Derived.ShutString
import Derived.ChangeOld
import Derived.Below
namespace Go.Proofs.Ytaflokfgbmlmaab.ExGetFact
open Go.ChangeShapes Go.WideShapes Go.ChangeAt Go.RowKit
open Go.ChangeMaps (open_string shut_string)
set_option linter.unusedVariables false

theorem toByteS_ex (a : Option Addr) (cap : Nat) (bs : List UInt8) (w : World) (hr : Rd w a bs) (hn : bs.length ≤ 1048576) :
    Calls Try.prog 19 #[.slice a bs.length cap] w fun e w' =>
      ∃ g, e = .returned (.slice (some ⟨g, 0, none⟩) bs.length bs.length) ∧ w.heap.size ≤ g ∧ Own w' g bs.length bs ∧ Below w.heap.size w w' :=
  (toByteS_own a cap bs w hr hn).mono fun e w' h => ⟨_, h.1, Nat.le_refl _, h.2.1, h.2.2⟩

/-- what is read, none being the zero fact -/
def ansF (bs : List UInt8) (x : Int) : ByteArray × List V3 × Int × Bool := match factR bs x with
  | some (kd, L, q) => (kd, L, q, true)
  | none => (⟨#[]⟩, [], 0, false)
theorem gets_uni {bs : List UInt8} {x : Int} {base : Nat} {e : Ending} {w : World} {kd : ByteArray} {L : List V3} {q : Int} {b : Bool} (h : GetsF bs x base e w) (hA : ansF bs x = (kd, L, q, b)) :
    ∃ a cap, e = .returned (.tuple #[.agg #[.string kd, .slice a L.length cap], .int .i64 q, .bool b]) ∧ w.ownsRow base 63 3 (.slice a L.length cap) L.length (cells3 L) ∧ L.length ≤ 5 := by
  unfold ansF at hA
  rcases h with ⟨kd', L', q', v, he, hf, ho, hl, _⟩ | ⟨he, hf⟩
  · rw [hf] at hA
    simp only [Prod.mk.injEq] at hA
    obtain ⟨rfl, rfl, rfl, rfl⟩ := hA
    obtain ⟨a, cap, e0, _⟩ := rdV_owns ho
    subst e0
    exact ⟨a, cap, he, ho, hl⟩
  · rw [hf] at hA
    simp only [Prod.mk.injEq] at hA
    obtain ⟨rfl, rfl, rfl, rfl⟩ := hA
    exact ⟨none, 0, he, World.ownsRow_nil _ _ _ _, by simp⟩
theorem specGet (g : Nat) (cap : Nat) (x : Int) (bs : List UInt8) (w : World) (kd : ByteArray) (L : List V3) (q : Int) (b : Bool) (h : Own w g cap bs) (hn : bs.length ≤ 1048580) (hA : ansF bs x = (kd, L, q, b)) :
    Calls Try.prog 18 #[.slice (some ⟨g, 0, none⟩) bs.length cap, .int .i64 x] w fun e w' =>
      ∃ a c, e = .returned (.tuple #[.agg #[.string kd, .slice a L.length c], .int .i64 q, .bool b]) ∧ w'.ownsRow w.heap.size 63 3 (.slice a L.length c) L.length (cells3 L) ∧ L.length ≤ 5 ∧ Below w.heap.size w w' :=
  (specGetFact_any _ cap x bs w h.rd hn h.cap).mono fun e w' hh => by
    obtain ⟨a, c, he, ho, hl⟩ := gets_uni hh.1 hA
    exact ⟨a, c, he, ho, hl, hh.2⟩
theorem implGet (g : Nat) (cap : Nat) (x : Int) (bs : List UInt8) (w : World) (kd : ByteArray) (L : List V3) (q : Int) (b : Bool) (h : Own w g cap bs) (hn : bs.length ≤ 1048580) (hA : ansF bs x = (kd, L, q, b)) :
    Calls Try.prog 20 #[.slice (some ⟨g, 0, none⟩) bs.length cap, .int .i64 x] w fun e w' =>
      ∃ a c, e = .returned (.tuple #[.agg #[.string kd, .slice a L.length c], .int .i64 q, .bool b]) ∧ w'.ownsRow w.heap.size 63 3 (.slice a L.length c) L.length (cells3 L) ∧ L.length ≤ 5 ∧ Below w.heap.size w w' :=
  (implGetFact_any _ cap x bs w h.rd hn h.cap (by simp)).mono fun e w' hh => by
    obtain ⟨a, c, he, ho, hl⟩ := gets_uni hh.1 hA
    exact ⟨a, c, he, ho, hl, hh.2⟩

theorem rdOf {w : World} {base : Nat} {a : Option Addr} {n c : Nat} {L : List V3} (h : w.ownsRow base 63 3 (.slice a n c) n (cells3 L)) : RdV w a L := by
  obtain ⟨a', c', e, hr, _⟩ := rdV_owns h
  simp only [Value.slice.injEq] at e
  rw [e.1]; exact hr
/-- a row of values lies in no block of another kind -/
theorem tag_ne {w : World} {base n X : Nat} {v : Value} {xs : List Value} {cs : Array Value} {T : TypeId} {fr : Nat × Nat} (h : w.ownsRow base 63 3 v n xs) (hX : w.heap[X]? = some (.cells cs T fr)) (hT : T ≠ 63) : v.ownBlock ≠ some X := by
  intro e
  rcases h.2 with ⟨rfl, _⟩ | ⟨g, cap, cur, rfl, _, hg, _⟩
  · simp [Value.ownBlock] at e
  · simp only [Value.ownBlock, Option.some.injEq] at e
    rw [e, hX] at hg
    simp only [Option.some.injEq, Obj.cells.injEq] at hg
    exact hT hg.2.1
theorem own_tag {w : World} {g cap : Nat} {bs : List UInt8} (h : Own w g cap bs) : ∃ cs, w.heap[g]? = some (.cells cs 5 (0, 0)) := by
  rcases h.2 with ⟨h1, _⟩ | ⟨g2, c2, cur, h1, _, hh, _⟩
  · simp at h1
  · simp only [Value.slice.injEq, Option.some.injEq, Addr.mk.injEq, and_true, true_and] at h1
    rw [h1.1]; exact ⟨_, hh⟩
theorem row_same {w w' : World} {base n : Nat} {v : Value} {xs : List Value} (h : w.ownsRow base 63 3 v n xs) (hs : ∀ k, v.ownBlock = some k → w'.heap[k]? = w.heap[k]?) : w'.ownsRow base 63 3 v n xs := by
  refine ⟨h.1, ?_⟩
  rcases h.2 with h2 | ⟨g, cap, cur, rfl, hb, hg, rest⟩
  · exact .inl h2
  · exact .inr ⟨g, cap, cur, rfl, hb, by rw [hs g rfl]; exact hg, rest⟩

/-- the two answers in their boxes, their rows, and all that was there -/
structure St (w : World) (X Y : Nat) (kd : ByteArray) (vw vg : Value) (bw bg n : Nat) (L M : List V3) (W : World) : Prop where
  bel : Below w.heap.size w W
  xb : W.heap[X]? = some (.cells #[.string kd, vw] 29 (0, 0))
  yb : W.heap[Y]? = some (.cells #[.string kd, vg] 29 (0, 0))
  rw : W.ownsRow bw 63 3 vw n (cells3 L)
  rg : W.ownsRow bg 63 3 vg n (cells3 M)
  sz : bg ≤ W.heap.size
theorem St.keep {w W W' : World} {X Y : Nat} {kd : ByteArray} {vw vg : Value} {bw bg n : Nat} {L M : List V3} (h : St w X Y kd vw vg bw bg n L M W) (hb : Below W.heap.size W W') : St w X Y kd vw vg bw bg n L M W' :=
  ⟨h.bel.trans (hb.mono h.bel.size), box_step h.xb hb, box_step h.yb hb, ownsRow_below h.rw hb, ownsRow_below h.rg hb, Nat.le_trans h.sz hb.size⟩
theorem St.drewN {w W : World} {X Y : Nat} {kd : ByteArray} {vw vg : Value} {bw bg n : Nat} {L M : List V3} (h : St w X Y kd vw vg bw bg n L M W) (k : Nat) : St w X Y kd vw vg bw bg n L M (W.drewN k) :=
  ⟨h.bel.trans (below_drewN _ _ k), h.xb, h.yb, h.rw, h.rg, h.sz⟩
theorem St.mark {w W W' : World} {X Y g : Nat} {kd : ByteArray} {vw vg : Value} {bw bg n cap : Nat} {L M : List V3} {bs : List UInt8} (h : St w X Y kd vw vg bw bg n L M W) (o : Own W g cap bs) (hg : W.grownBy W' (some g)) (hl : w.heap.size ≤ g) : St w X Y kd vw vg bw bg n L M W' := by
  obtain ⟨cs, ht⟩ := own_tag o
  have ne : ∀ {Z : Nat} {c : Array Value}, W.heap[Z]? = some (.cells c 29 (0, 0)) → Z ≠ g := fun {Z c} hz e => by
    rw [e, ht] at hz
    simp only [Option.some.injEq, Obj.cells.injEq] at hz
    exact absurd hz.2.1 (by decide)
  have rk : ∀ {base : Nat} {v : Value} {xs : List Value}, W.ownsRow base 63 3 v n xs → W'.ownsRow base 63 3 v n xs := fun {base v xs} hr => hr.kept hg (.inr (tag_ne hr ht (by decide)))
  exact ⟨h.bel.grown hg h.bel.size (fun k hk => by cases hk; exact hl), box_gr h.xb hg (ne h.xb), box_gr h.yb hg (ne h.yb), rk h.rw, rk h.rg, Nat.le_trans h.sz hg.size⟩

set_option maxRecDepth 100000 in
set_option maxHeartbeats 6400000 in
theorem law (p : Option Addr) (cp : Nat) (x : Int) (bs : List UInt8) (w : World) (hr : Rd w p bs) (hm : bs.length ≤ maxLen) :
    Calls Try.prog 5 #[.slice p bs.length cp, .int .i64 x] w fun e w' => e = .returned (.bool true) ∧ Below w.heap.size w w' := by
  unfold maxLen at hm
  by_cases hb : 1048576 < bs.length
  · go_enter Try.func5, Try.ntmps5
    go_wp2
    go_ret
    exact ⟨rfl, Below.refl _ _⟩
  obtain ⟨kd, L, q, b, hA⟩ : ∃ kd L q b, ansF bs x = (kd, L, q, b) := ⟨_, _, _, _, rfl⟩
  have HA := hide hA
  clear hA
  have HRD : Hid (∀ W, Below w.heap.size w W → Rd W p bs) := fun W h => hr.below h
  have hself : decide (bs = bs) = true := by simp
  have q1 : (q != q) = false := by simp
  have q2 : (b != b) = false := by simp
  go_enter Try.func5, Try.ntmps5
  go_wp2_with fail
  refine (toByteS_ex p cp bs w hr (by omega)).mono ?_
  rintro e u1 ⟨g1, rfl, l1, o1, b1⟩
  clear hr
  go_wp2_with fail
  refine (specGet g1 _ x bs u1 kd L q b o1 (by omega) HA.out).mono ?_
  rintro e u2 ⟨aw, cw, rfl, ow, hl5, b2⟩
  have B2 : Below w.heap.size w u2 := b1.trans (b2.mono b1.size)
  clear o1 b1 b2 l1
  have ba := below_al u2 (.cells #[.string kd, .slice aw L.length cw] 29)
  have hX3 := box2_new u2 (.string kd) (.slice aw L.length cw) 29
  have ow3 := ownsRow_below ow ba
  have B3 := B2.trans (ba.mono B2.size)
  go_wp2_with fail
  generalize hu3 : u2.alloc (.cells #[.string kd, .slice aw L.length cw] 29) = u3 at ba hX3 ow3 B3 ⊢
  obtain ⟨X, HXq⟩ : ∃ X, Hid (u2.heap.size = X) := ⟨_, rfl⟩
  rw [HXq.out] at hX3 ⊢
  clear ow B2 ba hu3 HXq
  refine (toByteS_ex p cp bs u3 (HRD.out _ B3) (by omega)).mono ?_
  rintro e u4 ⟨gx, rfl, lx, ox, b4⟩
  have hX4 := box_step hX3 b4
  have ow4 := ownsRow_below ow3 b4
  have B4 := B3.trans (b4.mono B3.size)
  have lgx : w.heap.size ≤ gx := Nat.le_trans B3.size lx
  clear hX3 ow3 B3 b4
  go_wp2_with fail
  refine (implGet gx _ x bs u4 kd L q b ox (by omega) HA.out).mono ?_
  rintro e u5 ⟨ag, cg, rfl, og, -, b5⟩
  have hX5 := box_step hX4 b5
  have ow5 := ownsRow_below ow4 b5
  have B5 := B4.trans (b5.mono B4.size)
  have ox5 := ox.later b5
  have hwlt : ∀ k, Value.ownBlock (.slice aw L.length cw) = some k → k < u4.heap.size := fun k hk => (ow4.lt k hk).2
  have hu4 : w.heap.size ≤ u4.heap.size := B4.size
  have hu5 : u4.heap.size ≤ u5.heap.size := b5.size
  clear hX4 ow4 B4 b5 ox
  have ba := below_al u5 (.cells #[.string kd, .slice ag L.length cg] 29)
  have S6 : St w X u5.heap.size kd (.slice aw L.length cw) (.slice ag L.length cg) u1.heap.size u4.heap.size L.length L L (u5.alloc (.cells #[.string kd, .slice ag L.length cg] 29)) :=
    ⟨B5.trans (ba.mono B5.size), box_step hX5 ba, box2_new u5 _ _ _, ownsRow_below ow5 ba, ownsRow_below og ba, Nat.le_trans hu5 ba.size⟩
  have ox6 := ox5.later ba
  obtain ⟨x0, x1, -, -⟩ := box2_cell S6.xb
  obtain ⟨y0, y1, -, -⟩ := box2_cell S6.yb
  clear ow5 og hX5 B5 ba ox5
  obtain ⟨Y, HYq⟩ : ∃ Y, Hid (u5.heap.size = Y) := ⟨_, rfl⟩
  go_wp2_with fail
  generalize u5.alloc (.cells #[.string kd, .slice ag L.length cg] 29) = u6 at S6 ox6 x0 x1 y0 y1 ⊢
  rw [HYq.out] at S6 y0 y1 ⊢
  clear HYq
  refine (eqFact_same kd ag aw cg cw L _ (rdOf S6.rg) (rdOf S6.rw) (by omega)).mono ?_
  rintro e u7 ⟨rfl, b7⟩
  have S7 := S6.keep b7
  have ox7 := ox6.later b7
  clear S6 ox6 x0 x1 y0 y1 b7
  go_wp2_with fail
  refine (toByteS_ex p cp bs u7 (HRD.out _ S7.bel) (by omega)).mono ?_
  rintro e u8 ⟨g8, rfl, l8, o8, b8⟩
  have S8 := S7.keep b8
  have ox8 := ox7.later b8
  clear S7 ox7 b8
  go_wp2_with fail
  refine (eqByteS_own _ _ _ _ bs bs u8 ox8 o8 (by omega) (by omega)).mono ?_
  rintro e u9 ⟨rfl, nd, rfl⟩
  replace S8 := S8.drewN nd
  replace ox8 := ox8.drewN nd
  clear o8
  generalize u8.drewN nd = u9 at S8 ox8 ⊢
  go_wp2_with fail
  refine (markByteS_own _ _ 1 bs u9 ox8 (by omega) (by omega)).mono ?_
  rintro e v1 ⟨rfl, -, gr1⟩
  have S10 := S8.mark ox8 gr1 lgx
  clear S8 ox8 gr1
  have q3 : ¬ (((1 + bs.length : Nat) : Int) < 0) := by omega
  obtain ⟨x0, x1, -, -⟩ := box2_cell S10.xb
  obtain ⟨y0, y1, -, -⟩ := box2_cell S10.yb
  go_wp2_with fail
  refine (eqFact_same kd ag aw cg cw L _ (rdOf S10.rg) (rdOf S10.rw) (by omega)).mono ?_
  rintro e v2 ⟨rfl, b2⟩
  have S11 := S10.keep b2
  clear S10 x0 x1 y0 y1 b2
  obtain ⟨y0, y1, -, -⟩ := box2_cell S11.yb
  have ne1 := tag_ne S11.rg S11.xb (by decide)
  have ne2 := tag_ne S11.rg S11.yb (by decide)
  have hXl := (Array.getElem?_eq_some_iff.1 S11.xb).1
  have hYl := (Array.getElem?_eq_some_iff.1 S11.yb).1
  go_wp2_with fail
  refine (markFact_row kd u4.heap.size _ L v2 S11.rg (by omega)).mono ?_
  rintro e v3 ⟨⟨m, rfl, hm1⟩, og3, hoth, hbl⟩
  have S12 : St w X Y kd (.slice aw L.length cw) (.slice ag L.length cg) u1.heap.size u4.heap.size L.length L (marksV 1 L.length) v3 := by
    refine ⟨S11.bel.trans ((hbl S11.sz).mono hu4), by rw [hoth X hXl ne1]; exact S11.xb, by rw [hoth Y hYl ne2]; exact S11.yb, row_same S11.rw (fun k hk => hoth k (S11.rw.lt k hk).2 (fun e => ?_)), og3, Nat.le_trans S11.sz (hbl S11.sz).size⟩
    have h1 := hwlt k hk
    have h2 := (S11.rg.lt k e).1
    omega
  clear S11 y0 y1 ne1 ne2 hXl hYl og3 hoth hbl
  obtain ⟨y0, y1, -, -⟩ := box2_cell S12.yb
  go_wp2_with fail
  refine (heldFact_any kd ag cg 1 L.length v3 (rdOf S12.rg) (by omega) (by omega)).mono ?_
  rintro e v4 ⟨⟨r, rfl, hr1⟩, b4⟩
  obtain rfl : r = m := by omega
  have S13 := S12.keep b4
  clear S12 y0 y1 b4
  have q4 : ¬ ((r : Int) < 0) := by omega
  have q5 : ((r : Int) != (r : Int)) = false := by simp
  go_wp2_with fail
  refine (toByteS_ex p cp bs v4 (HRD.out _ S13.bel) (by omega)).mono ?_
  rintro e v5 ⟨gz, rfl, lz, oz, b5⟩
  have S14 := S13.keep b5
  clear S13 b5
  go_wp2_with fail
  refine (implGet gz _ x bs v5 kd L q b oz (by omega) HA.out).mono ?_
  rintro e v6 ⟨ah, ch, rfl, oh, -, b6⟩
  have S15 := S14.keep b6
  clear S14 b6 oz
  have ba := below_al v6 (.cells #[.string kd, .slice ah L.length ch] 29)
  have S16 := S15.keep ba
  have oh7 := ownsRow_below oh ba
  have hH := box2_new v6 (.string kd) (.slice ah L.length ch) 29
  obtain ⟨x0, x1, -, -⟩ := box2_cell S16.xb
  obtain ⟨z0, z1, -, -⟩ := box2_cell hH
  clear S15 oh hH ba
  go_wp2_with fail
  generalize v6.alloc (.cells #[.string kd, .slice ah L.length ch] 29) = v7 at S16 oh7 x0 x1 z0 z1 ⊢
  refine (eqFact_same kd ah aw ch cw L _ (rdOf oh7) (rdOf S16.rw) (by omega)).mono ?_
  rintro e v8 ⟨rfl, b8⟩
  have S17 := S16.keep b8
  clear S16 oh7 x0 x1 z0 z1 b8
  obtain ⟨y0, y1, -, -⟩ := box2_cell S17.yb
  go_wp2_with fail
  refine (heldFact_any kd ag cg 1 L.length v8 (rdOf S17.rg) (by omega) (by omega)).mono ?_
  rintro e v9 ⟨⟨r', rfl, hr2⟩, b9⟩
  obtain rfl : r' = r := by omega
  have S18 := S17.keep b9
  clear S17 y0 y1 b9
  go_wp2
  go_ret
  exact ⟨rfl, S18.bel⟩

theorem walk (p : Option Addr) (len0 cap0 : Nat) (z0 : List Int) (x : Int) (w : World) (w0 : IsRow .u8 w p len0 cap0 z0) (w1 : (Lit.int .i64 x).wf = true) :
    Calls Try.prog 5 #[.slice p len0 cap0, .int .i64 x] w fun e w' => e = .returned (.bool true) ∧ Below w.heap.size w w' := by
  obtain ⟨bs, hl, hr⟩ := rd_row w0
  have hm : len0 ≤ maxLen := isRow_len w0
  subst hl
  exact law p cap0 x bs w hr hm

theorem own : ownKnob Try.prog.godebug = none := by kernel_rfl
theorem laidOut : laidOutB Try.prog = true := by kernel_rfl

set_option maxRecDepth 100000 in
theorem lifted (os : Os) (started : os.Started) (H : Type) (enc : TypeId × Value → H) :
    ReturnsInHanded {} Try.checked os 5 .any (Rows.fnExactGetFactSpec.pre6 enc Try.prog Try.f5 Rows.fnExactGetFactRow.domain false) (Rows.fnExactGetFactSpec.post enc Try.prog Try.f5 false true false false) := by
  refine returnsInHanded_of_change (C := Try.checked) own started (by kernel_rfl) Try.func5
    (ChangeSpec.witness6 (enc := enc) (C := Try.checked) false ⟨#[], #[.slice none 0 0, .int .i64 0], []⟩ 8 (by kernel_rfl) (by kernel_rfl) (by kernel_rfl) (by kernel_rfl)) ?_
  intro W base args ds gs before hval0 hW hcnd _
  have hval : ∀ (j : Nat) t v, Try.f5.params[j]? = some t → args[j]? = some v → Value.okWide Try.prog W .any base t v := hval0
  have hW' := hW
  obtain ⟨p, q, hA0, hV, rfl, hfz, hnd⟩ := hW
  have hA : DataW.TrodAll enc Try.prog W 0 (fun _ => true) true Try.f5.params.toList args.toList ds p := hA0
  rw [Try.params5] at hA hval
  obtain ⟨v0, vs0, d0, ds0, p0, q0, hargs, rfl, rfl, h0, r0⟩ := trodAll_cons hA
  obtain ⟨v1, vs1, d1, ds1, p1, q1, rfl, rfl, rfl, h1, r1⟩ := trodAll_cons r0
  obtain ⟨rfl, rfl, rfl⟩ := trodAll_nil r1
  obtain rfl : args = #[v0, v1] := by cases args; simp_all
  obtain ⟨rfl, rfl⟩ := trodVars_none hV
  obtain ⟨a0, len0, cap0, rfl⟩ := okWide_slice Try.underlying44 (hval 0 44 v0 rfl rfl)
  have k0 := h0
  have lt0 : ∀ x ∈ p0, x.block < W.heap.size := by obtain ⟨m, hm⟩ := k0; exact DataW.trod_lt m _ _ _ hm
  obtain ⟨z0, w0⟩ : ∃ zs, IsRow .u8 W a0 len0 cap0 zs := by
    obtain ⟨fuel, hf⟩ := h0
    rcases open_ints Try.underlying44 Try.underlying5 (by kernel_rfl) hf with ⟨hcs, _⟩ | ⟨x, l, c, zs, hcs, _, hl, hm, hz, _, hcell, hwz⟩
    · simp [Value.cells] at hcs
      obtain ⟨rfl, rfl, rfl⟩ := hcs
      exact ⟨[], .inl ⟨rfl, rfl, rfl, rfl⟩⟩
    · simp [Value.cells] at hcs
      obtain ⟨rfl, rfl, rfl⟩ := hcs
      exact ⟨zs, .inr ⟨_, rfl, hl, hm, by simpa using hz, hcell, hwz⟩⟩
  obtain ⟨a1, rfl, rfl, rfl, w1⟩ := open_int Try.underlying3 (hval 1 3 v1 rfl rfl) h1
  clear hA0 hval0
  refine (walk a0 len0 cap0 z0 a1 W w0 w1).mono fun e W' ⟨he, bel⟩ => ?_
  subst he
  exact ⟨_, rfl, _, _, _, [], _, [], hW', trodAll_mk1 (shut_bool Try.underlying4 _), (trodAll_cons_mk (Below.trod laidOut (by kernel_rfl) (of_decide_eq_true (by kernel_rfl)) k0 bel lt0) (trodAll_cons_mk (shut_int Try.underlying3 w1) trodAll_mk0)), rfl, bel.frame _, fun h => by cases h⟩

theorem over : Rows.fnExactGetFactRow.holds Try.pinned (OpenSpec.ofChange Rows.fnExactGetFactSpec) :=
  OpenClaim.holds_of_wide 5 Try.f5 rfl rfl rfl rfl rfl rfl rfl ⟨rfl, rfl, rfl, rfl, rfl⟩ rfl rfl rfl rfl rfl (by kernel_rfl) Try.func5 (by kernel_rfl)
    (of_decide_eq_true (by kernel_rfl)) (by unfold Func.isWrapper; first | (rw [if_pos (by decide +kernel)]; kernel_rfl) | (rw [if_neg (by decide +kernel)]; exact ⟨rfl, rfl⟩))
    (fun os started H enc _ => lifted os started H enc)
end Go.Proofs.Ytaflokfgbmlmaab.ExGetFact
namespace Go.Proofs.Ytaflokfgbmlmaab
theorem fnExactGetFact_holds : Rows.FnExactGetFactSaid := ExGetFact.over
#print axioms fnExactGetFact_holds
end Go.Proofs.Ytaflokfgbmlmaab
