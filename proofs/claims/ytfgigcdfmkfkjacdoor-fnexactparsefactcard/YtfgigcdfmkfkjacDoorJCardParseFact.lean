/-
  Proved: the row on ParseFact (for every text the law answers true, and the text reads as it did, where the library's tables and errors read as listed), and its tied card (what is listed is what the program's own text lays).
-/
import Derived.Test.YtfgigcdfmkfkjacDoorJoined2
import Derived.Test.YtfgigcdfmkfkjacDoorJoined3
import Derived.Lay
import Derived.OpenShut
import Derived.ShutString
import Derived.ChangeOld
import Derived.Below
namespace Go.Proofs.YtfgigcdfmkfkjacDoor.CardParseFact
open Go.ChangeShapes Go.WideShapes Go.ChangeAt Go.RowKit Go.Joins
open Go.ChangeMaps (open_string shut_string)
set_option linter.unusedVariables false
set_option maxRecDepth 100000

theorem errs_of {r : List (String × DataW Unit)} {a b c d : String × DataW Unit} {W : World} (h : laidMet Tryd.prog (a :: b :: c :: d :: ("strconv.ErrRange", Rows.laid_strconv_ErrRange) :: ("strconv.ErrSyntax", Rows.laid_strconv_ErrSyntax) :: r) W) : Errs W := Go.Proofs.YtfgigcdfmkfkjacDoor.errs_of h.tail

/-- what is read, plainly: none being the zero fact -/
def ansPF (s : ByteArray) : ByteArray × List V3 × Bool := match parseFS s with
  | some (kd, L) => (kd, L, true)
  | none => (⟨#[]⟩, [], false)
theorem ansPF_len {s : ByteArray} {kd : ByteArray} {L : List V3} {b : Bool} (h : ansPF s = (kd, L, b)) : L.length ≤ 5 := by
  unfold ansPF at h
  cases hp : parseFS s with
  | none =>
    rw [hp] at h
    simp only [Prod.mk.injEq] at h
    rw [← h.2.1]; simp
  | some x =>
    obtain ⟨k, M⟩ := x
    rw [hp] at h
    simp only [Prod.mk.injEq] at h
    obtain ⟨rfl, rfl, -⟩ := h
    unfold parseFS at hp
    split at hp
    · split at hp
      · split at hp
        · rename_i hf
          simp only [Option.some.injEq, Prod.mk.injEq] at hp
          rw [← hp.2]
          unfold factB at hf
          simp only [Bool.and_eq_true, decide_eq_true_eq] at hf
          exact hf.1.2
        · cases hp
      · cases hp
    · cases hp
theorem uniW {s : ByteArray} {base : Nat} {e : Ending} {w : World} {kd0 kd : ByteArray} {v : Value} {L0 L : List V3} {b0 b : Bool} (he : e = .returned (.tuple #[.agg #[.string kd0, v], .bool b0])) (ho : w.ownsRow base 33 3 v L0.length (cells3 L0)) (hp : parseFS s = (if b0 then some (kd0, L0) else none)) (hz : b0 = false → kd0 = ⟨#[]⟩ ∧ v = .slice none 0 0) (hA : ansPF s = (kd, L, b)) :
    ∃ a c, e = .returned (.tuple #[.agg #[.string kd, .slice a L.length c], .bool b]) ∧ w.ownsRow base 33 3 (.slice a L.length c) L.length (cells3 L) := by
  unfold ansPF at hA
  rw [hp] at hA
  cases b0
  · simp only [Bool.false_eq_true, if_false, Prod.mk.injEq] at hA
    obtain ⟨rfl, rfl, rfl⟩ := hA
    obtain ⟨rfl, rfl⟩ := hz rfl
    exact ⟨none, 0, he, World.ownsRow_nil _ _ _ _⟩
  · simp only [if_true, Prod.mk.injEq] at hA
    obtain ⟨rfl, rfl, rfl⟩ := hA
    obtain ⟨a, c, e0, -, -, -, -⟩ := rdV_owns ho
    subst e0
    exact ⟨a, c, he, ho⟩
theorem specP (s : ByteArray) (w : World) (kd : ByteArray) (L : List V3) (b : Bool) (hs : s.size ≤ 1048576) (hA : ansPF s = (kd, L, b)) :
    Calls Tryd.prog 4 #[.string s] w fun e w' =>
      ∃ a c, e = .returned (.tuple #[.agg #[.string kd, .slice a L.length c], .bool b]) ∧ w'.ownsRow w.heap.size 33 3 (.slice a L.length c) L.length (cells3 L) ∧ Below w.heap.size w w' :=
  (specParseFact_any s w hs).mono fun e w' h => by
    obtain ⟨⟨k0, v, b0, L0, he, ho, hp, hz⟩, hb⟩ := h
    obtain ⟨a, c, h1, h2⟩ := uniW he ho hp hz hA
    exact ⟨a, c, h1, h2, hb⟩
theorem implP (s : ByteArray) (m : Int) (w : World) (kd : ByteArray) (L : List V3) (b : Bool) (hs : s.size ≤ 1048576) (hA : ansPF s = (kd, L, b)) (ht : Tab w ∧ Errs w ∧ w.cell? ⟨0, 0, none⟩ = some (.int .i64 m)) :
    Calls Tryd.prog 5 #[.string s] w fun e w' =>
      ∃ a c, e = .returned (.tuple #[.agg #[.string kd, .slice a L.length c], .bool b]) ∧ w'.ownsRow w.heap.size 33 3 (.slice a L.length c) L.length (cells3 L) ∧ Below w.heap.size w w' :=
  (parseFact_any s m w hs ht.1 ht.2.1 ht.2.2).mono fun e w' h => by
    obtain ⟨⟨k0, v, b0, L0, he, ho, hp, hz⟩, hb⟩ := h
    rw [parseFI_same] at hp
    obtain ⟨a, c, h1, h2⟩ := uniW he ho hp hz hA
    exact ⟨a, c, h1, h2, hb⟩
theorem rdOf {w : World} {base : Nat} {a : Option Addr} {n c : Nat} {L : List V3} (h : w.ownsRow base 33 3 (.slice a n c) n (cells3 L)) : RdV w a L := by
  obtain ⟨a', c', e, hr, _⟩ := rdV_owns h
  simp only [Value.slice.injEq] at e
  rw [e.1]; exact hr
/-- a row of values lies in no block of another kind -/
theorem tag_ne {w : World} {base n X : Nat} {v : Value} {xs : List Value} {cs : Array Value} {T : TypeId} {fr : Nat × Nat} (h : w.ownsRow base 33 3 v n xs) (hX : w.heap[X]? = some (.cells cs T fr)) (hT : T ≠ 33) : v.ownBlock ≠ some X := by
  intro e
  rcases h.2 with ⟨rfl, _⟩ | ⟨g, cap, cur, rfl, _, hg, _⟩
  · simp [Value.ownBlock] at e
  · simp only [Value.ownBlock, Option.some.injEq] at e
    rw [e, hX] at hg
    simp only [Option.some.injEq, Obj.cells.injEq] at hg
    exact hT hg.2.1
theorem row_same {w w' : World} {base n : Nat} {v : Value} {xs : List Value} (h : w.ownsRow base 33 3 v n xs) (hs : ∀ k, v.ownBlock = some k → w'.heap[k]? = w.heap[k]?) : w'.ownsRow base 33 3 v n xs := by
  refine ⟨h.1, ?_⟩
  rcases h.2 with h2 | ⟨g, cap, cur, rfl, hb, hg, rest⟩
  · exact .inl h2
  · exact .inr ⟨g, cap, cur, rfl, hb, by rw [hs g rfl]; exact hg, rest⟩

/-- the two answers in their boxes, their rows, and all that was there -/
structure St (w : World) (X Y : Nat) (kd : ByteArray) (vw vg : Value) (bw bg n : Nat) (L M : List V3) (W : World) : Prop where
  bel : Below w.heap.size w W
  xb : W.heap[X]? = some (.cells #[.string kd, vw] 24 (0, 0))
  yb : W.heap[Y]? = some (.cells #[.string kd, vg] 24 (0, 0))
  rw : W.ownsRow bw 33 3 vw n (cells3 L)
  rg : W.ownsRow bg 33 3 vg n (cells3 M)
  sz : bg ≤ W.heap.size
theorem St.keep {w W W' : World} {X Y : Nat} {kd : ByteArray} {vw vg : Value} {bw bg n : Nat} {L M : List V3} (h : St w X Y kd vw vg bw bg n L M W) (hb : Below W.heap.size W W') : St w X Y kd vw vg bw bg n L M W' :=
  ⟨h.bel.trans (hb.mono h.bel.size), box_step h.xb hb, box_step h.yb hb, ownsRow_below h.rw hb, ownsRow_below h.rg hb, Nat.le_trans h.sz hb.size⟩

set_option maxHeartbeats 6400000 in
theorem walk (s : ByteArray) (w : World) (hsm : s.size ≤ maxLen) (ht : Tab w) (he : Errs w) (hm : ∃ m, w.cell? ⟨0, 0, none⟩ = some (.int .i64 m)) :
    Calls Tryd.prog 3 #[.string s] w fun e w' => e = .returned (.bool true) ∧ Below w.heap.size w w' := by
  obtain ⟨m0, hm⟩ := hm
  have HT : Hid (∀ W, Below w.heap.size w W → Tab W ∧ Errs W ∧ W.cell? ⟨0, 0, none⟩ = some (.int .i64 m0)) := fun W h =>
    ⟨ht.later h (Nat.le_refl _), he.later h (Nat.le_refl _), by rw [h.cell (World.block_lt_of_cell? w _ hm)]; exact hm⟩
  clear ht he hm
  unfold maxLen at hsm
  by_cases h1 : (1048576 : Int) < (s.size : Int)
  · go_enter Tryd.func3, Tryd.ntmps3
    go_wp2
    go_ret
    exact ⟨rfl, Below.refl _ _⟩
  have hs : s.size ≤ 1048576 := by omega
  obtain ⟨kd, L, b, hA⟩ : ∃ kd L b, ansPF s = (kd, L, b) := ⟨_, _, _, rfl⟩
  have hl5 := ansPF_len hA
  have HA := hide hA
  clear hA
  have q2 : (b != b) = false := by simp
  go_enter Tryd.func3, Tryd.ntmps3
  go_wp2_with fail
  refine (specP s w kd L b hs HA.out).mono ?_
  rintro e u2 ⟨aw, cw, rfl, ow, b2⟩
  have ba := below_al u2 (.cells #[.string kd, .slice aw L.length cw] 24)
  have hX3 := box2_new u2 (.string kd) (.slice aw L.length cw) 24
  have ow3 := ownsRow_below ow ba
  have B3 := b2.trans (ba.mono b2.size)
  go_wp2_with fail
  generalize hu3 : u2.alloc (.cells #[.string kd, .slice aw L.length cw] 24) = u3 at ba hX3 ow3 B3 ⊢
  obtain ⟨X, HXq⟩ : ∃ X, Hid (u2.heap.size = X) := ⟨_, rfl⟩
  rw [HXq.out] at hX3 ⊢
  clear ow b2 ba hu3 HXq
  refine (implP s m0 u3 kd L b hs HA.out (HT.out _ B3)).mono ?_
  rintro e u5 ⟨ag, cg, rfl, og, b5⟩
  have hX5 := box_step hX3 b5
  have ow5 := ownsRow_below ow3 b5
  have B5 := B3.trans (b5.mono B3.size)
  have hwlt : ∀ k, Value.ownBlock (.slice aw L.length cw) = some k → k < u3.heap.size := fun k hk => (ow3.lt k hk).2
  have hu4 : w.heap.size ≤ u3.heap.size := B3.size
  have hu5 : u3.heap.size ≤ u5.heap.size := b5.size
  clear hX3 ow3 B3 b5
  have ba := below_al u5 (.cells #[.string kd, .slice ag L.length cg] 24)
  have S6 : St w X u5.heap.size kd (.slice aw L.length cw) (.slice ag L.length cg) w.heap.size u3.heap.size L.length L L (u5.alloc (.cells #[.string kd, .slice ag L.length cg] 24)) :=
    ⟨B5.trans (ba.mono B5.size), box_step hX5 ba, box2_new u5 _ _ _, ownsRow_below ow5 ba, ownsRow_below og ba, Nat.le_trans hu5 ba.size⟩
  obtain ⟨x0, x1, -, -⟩ := box2_cell S6.xb
  obtain ⟨y0, y1, -, -⟩ := box2_cell S6.yb
  clear ow5 og hX5 B5 ba
  obtain ⟨Y, HYq⟩ : ∃ Y, Hid (u5.heap.size = Y) := ⟨_, rfl⟩
  go_wp2_with fail
  generalize u5.alloc (.cells #[.string kd, .slice ag L.length cg] 24) = u6 at S6 x0 x1 y0 y1 ⊢
  rw [HYq.out] at S6 y0 y1 ⊢
  clear HYq
  refine (eqFact_same kd ag aw cg cw L _ (rdOf S6.rg) (rdOf S6.rw) (by omega)).mono ?_
  rintro e u7 ⟨rfl, b7⟩
  have S11 := S6.keep b7
  clear S6 x0 x1 y0 y1 b7
  obtain ⟨y0, y1, -, -⟩ := box2_cell S11.yb
  have ne1 := tag_ne S11.rg S11.xb (by decide)
  have ne2 := tag_ne S11.rg S11.yb (by decide)
  have hXl := (Array.getElem?_eq_some_iff.1 S11.xb).1
  have hYl := (Array.getElem?_eq_some_iff.1 S11.yb).1
  go_wp2_with fail
  refine (markFact_row kd u3.heap.size _ L u7 S11.rg (by omega)).mono ?_
  rintro e v3 ⟨⟨m, rfl, hm1⟩, og3, hoth, hbl⟩
  have S12 : St w X Y kd (.slice aw L.length cw) (.slice ag L.length cg) w.heap.size u3.heap.size L.length L (marksV 1 L.length) v3 := by
    refine ⟨S11.bel.trans ((hbl S11.sz).mono hu4), by rw [hoth X hXl ne1]; exact S11.xb, by rw [hoth Y hYl ne2]; exact S11.yb, row_same S11.rw (fun k hk => hoth k (S11.rw.lt k hk).2 (fun e => ?_)), og3, Nat.le_trans S11.sz (hbl S11.sz).size⟩
    have h1 := hwlt k hk
    have h2 := (S11.rg.lt k e).1
    omega
  clear S11 y0 y1 ne1 ne2 hXl hYl og3 hoth hbl
  obtain ⟨y0, y1, -, -⟩ := box2_cell S12.yb
  go_wp2_with fail
  refine (heldFact_any kd ag cg 1 L.length v3 (rdOf S12.rg) (by omega) (by omega)).mono ?_
  rintro e v4 ⟨⟨r, rfl, hr1⟩, b4⟩
  obtain rfl : r = m := by omega
  have S13 := S12.keep b4
  clear S12 y0 y1 b4
  have q4 : ¬ ((r : Int) < 0) := by omega
  have q5 : ((r : Int) != (r : Int)) = false := by simp
  go_wp2_with fail
  refine (implP s m0 v4 kd L b hs HA.out (HT.out _ S13.bel)).mono ?_
  rintro e v6 ⟨ah, ch, rfl, oh, b6⟩
  have S15 := S13.keep b6
  clear S13 b6
  have ba := below_al v6 (.cells #[.string kd, .slice ah L.length ch] 24)
  have S16 := S15.keep ba
  have oh7 := ownsRow_below oh ba
  have hH := box2_new v6 (.string kd) (.slice ah L.length ch) 24
  obtain ⟨x0, x1, -, -⟩ := box2_cell S16.xb
  obtain ⟨z0, z1, -, -⟩ := box2_cell hH
  clear S15 oh hH ba
  go_wp2_with fail
  generalize v6.alloc (.cells #[.string kd, .slice ah L.length ch] 24) = v7 at S16 oh7 x0 x1 z0 z1 ⊢
  refine (eqFact_same kd ah aw ch cw L _ (rdOf oh7) (rdOf S16.rw) (by omega)).mono ?_
  rintro e v8 ⟨rfl, b8⟩
  have S17 := S16.keep b8
  clear S16 oh7 x0 x1 z0 z1 b8
  obtain ⟨y0, y1, -, -⟩ := box2_cell S17.yb
  go_wp2_with fail
  refine (heldFact_any kd ag cg 1 L.length v8 (rdOf S17.rg) (by omega) (by omega)).mono ?_
  rintro e v9 ⟨⟨r', rfl, hr2⟩, b9⟩
  obtain rfl : r' = r := by omega
  have S18 := S17.keep b9
  clear S17 y0 y1 b9
  go_wp2
  go_ret
  exact ⟨rfl, S18.bel⟩

theorem own : ownKnob Tryd.prog.godebug = none := by kernel_rfl
theorem laidOut : laidOutB Tryd.prog = true := by kernel_rfl

theorem laid_plain {W : World} (h : laidMetH Tryd.prog Rows.fnExactParseFactRow.laid W) : laidMet Tryd.prog Rows.fnExactParseFactRow.laid W := by
  rw [MakeChecks.laidMetH_plain _ _ _ (by kernel_rfl)] at h
  exact h

set_option maxRecDepth 100000 in
theorem lifted (os : Os) (started : os.Started) (H : Type) (enc : TypeId × Value → H) :
    ReturnsInHanded {} Tryd.checked os 3 .any (fun w args => (Rows.fnExactParseFactSpec.pre enc Tryd.prog Tryd.f3 [] false w args ∧ laidMetH Tryd.prog Rows.fnExactParseFactRow.laid w) ∧ sizedMet enc Tryd.prog Tryd.f3 (OpenSpec.ofChange Rows.fnExactParseFactSpec) false w args)
      (Rows.fnExactParseFactSpec.post enc Tryd.prog Tryd.f3 false true false false) := by
  refine handed_shaped (C := Tryd.checked) (X := fun w _ => laidMetH Tryd.prog Rows.fnExactParseFactRow.laid w) (fun _ _ _ hh h => h.of_heap hh) own started (by kernel_rfl) Tryd.func3
    (ChangeSpec.witness_shaped (enc := enc) (C := Tryd.checked) (os := os) (X := fun w _ => laidMetH Tryd.prog Rows.fnExactParseFactRow.laid w) false (World.laidAll Tryd.prog os Rows.fnExactParseFactRow.laid) #[.string ByteArray.empty] 8 (World.laidAll_os _ _ _) (World.shaped_of_ZipB (by kernel_rfl) (by kernel_rfl)) (by kernel_rfl) (by kernel_rfl) (by kernel_rfl) (by rw [MakeChecks.laidMetH_plain _ _ _ (by kernel_rfl)]; exact laidMet_laidAll _ (by kernel_rfl) (by kernel_rfl))) ?_
  intro W base args ds gs before hval0 hW _ _ hL hsh _
  have hval : ∀ (j : Nat) t v, Tryd.f3.params[j]? = some t → args[j]? = some v → Value.okWide Tryd.prog W .any base t v := hval0
  have hW' := hW
  obtain ⟨p, q, hA0, hV, rfl, hfz, hnd⟩ := hW
  have hA : DataW.TrodAll enc Tryd.prog W 0 (fun _ => true) true Tryd.f3.params.toList args.toList ds p := hA0
  rw [Tryd.params3] at hA hval
  obtain ⟨v0, vs0, d0, ds0, p0, q0, hargs, rfl, rfl, h0, r0⟩ := trodAll_cons hA
  obtain ⟨rfl, rfl, rfl⟩ := trodAll_nil r0
  obtain rfl : args = #[v0] := by cases args; simp_all
  obtain ⟨rfl, rfl⟩ := trodVars_none hV
  obtain ⟨a0, rfl, rfl, rfl, w0⟩ := open_string Tryd.underlying9 (hval 0 9 v0 rfl rfl) h0
  clear hA0 hval0
  simp only [List.append_nil] at hW'
  refine (walk a0 W w0 (tab_of (laid_plain hL)) (errs_of (laid_plain hL)) (cell_of_shapedOpen_int (zero := #[.int .i64 0]) (t := 3) hsh (of_decide_eq_true (by kernel_rfl)) (by kernel_rfl) rfl (by kernel_rfl) (by kernel_rfl) Tryd.underlying3)).mono fun e W' ⟨he, bel⟩ => ?_
  subst he
  exact ⟨_, rfl, _, _, _, [], _, [], hW', trodAll_mk1 (shut_bool Tryd.underlying4 _), (trodAll_cons_mk (shut_string Tryd.underlying9 w0) trodAll_mk0), rfl, bel.frame _, fun h => by cases h⟩

set_option maxRecDepth 100000 in
theorem over : Rows.fnExactParseFactRow.holds Tryd.pinned (OpenSpec.ofChange Rows.fnExactParseFactSpec) :=
  OpenClaim.holds_of_wide 3 Tryd.f3 rfl rfl rfl rfl rfl rfl rfl ⟨rfl, rfl, rfl, rfl, rfl⟩ rfl rfl rfl rfl rfl (by kernel_rfl) Tryd.func3 (by kernel_rfl)
    (of_decide_eq_true (by kernel_rfl)) (by unfold Func.isWrapper; first | (rw [if_pos (by decide +kernel)]; kernel_rfl) | (rw [if_neg (by decide +kernel)]; exact ⟨rfl, rfl⟩))
    (fun os started H enc _ => lifted os started H enc)

set_option maxRecDepth 100000 in
theorem card_over : Rows.FnExactParseFactCardSaid :=
  Claim7.holds_tied_plain_at .later [] [.data, .data, .data, .data, .sentinel, .sentinel, .pinned] true Rows.fnExactParseFactCard.stood.harness true
    over (fun _ h => by cases h) (by kernel_rfl) (fun _ h => by cases h) fnExactParseFact_row_tie rfl ⟨rfl, rfl⟩ (by kernel_rfl) rfl
    (fun f fn hf hfn => by
      obtain rfl : f = 3 := Option.some.inj ((show Tryd.prog.funcNamed "loop.example/g00282/laws.FnExactParseFact" = some 3 by kernel_rfl).symm.trans hf) |>.symm
      obtain rfl : fn = Tryd.f3 := (Option.some.inj (Tryd.func3.symm.trans hfn)).symm
      exact ⟨by kernel_rfl, fun j t ht => by
        rw [Tryd.params3] at ht
        have hm : t ∈ [9] := by simpa using Array.mem_of_getElem? ht
        have hall : ([9].all fun u => !Tryd.prog.wantsStandIn u) = true := by kernel_rfl
        exact (show Tryd.prog.wantsStandIn t = false by simpa using List.all_eq_true.1 hall t hm)⟩)
    (by kernel_rfl)
end Go.Proofs.YtfgigcdfmkfkjacDoor.CardParseFact
namespace Go.Proofs.YtfgigcdfmkfkjacDoor
theorem fnExactParseFactCard_holds : Rows.FnExactParseFactCardSaid := CardParseFact.card_over
#print axioms fnExactParseFactCard_holds
end Go.Proofs.YtfgigcdfmkfkjacDoor
