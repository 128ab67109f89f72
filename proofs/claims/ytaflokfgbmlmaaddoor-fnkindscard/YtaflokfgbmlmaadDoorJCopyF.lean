/-
  Copies of a fact: the model's and the tested one: the same values, in a row of the call's own.
-/
import Derived.Test.YtaflokfgbmlmaadDoorJoined1
import Derived.Test.YtaflokfgbmlmaadDoorJLawFact
import Derived.OwnWalk
import Derived.Deep.AppendLies
import Derived.Deep.Upon
import Derived.Deep.RegionWith
namespace Go.Proofs.YtaflokfgbmlmaadDoor
open Go.RowKit
set_option linter.unusedVariables false

theorem src_zero {P : Program} {w : World} {size : Nat} {t e : TypeId} (hk : P.underlying t = some (.slice e)) (ad : Option Addr) (c : Nat) : Src P size t (.slice ad 0 c) 0 [] w := by
  cases ad with
  | none => exact Src.ofNil w hk c
  | some a => exact Src.ofSlice w hk a 0 c [] (by simp) (fun j u h => by simp at h) (fun _ h => by cases h)
theorem wpList_append_zero {P : Program} {w : World} {ops : Array Oper} {rest : List Oper} {o : Oper} {a : Act} {Q : Exit → Act → World → Prop} (hgd : o.guard = none) (s x : Operand) (t : TypeId)
    (ho : o.op = .call { callee := .builtin .append, args := #[s, x], argTypes := #[t, t] }) (e : TypeId) (i : TypeInfo) (ht : P.underlying t = some (.slice e)) (hi : P.info? e = some i)
    (b : Option Addr) (n cap : Nat) (hs : a.eval s = .slice b n cap) (hle : n ≤ cap) (ad : Option Addr) (c : Nat) (hx : a.eval x = .slice ad 0 c)
    (h : wpList P ops Q rest (a.put o.dst (.slice b n cap)) w) : wpList P ops Q (o :: rest) a w := by
  refine wpList_plain hgd fun K hK => ?_
  have hrun := run_append_nothing w t t o.type e i ht hi b n cap hle (.slice ad 0 c) (src_zero ht ad c)
  unfold Oper.wp
  simp [execOp, ho, resolve, invoke, builtin, hs, hx, hrun, Result.andThen]
  exact hK _ _ h
theorem rdV_src {w : World} {b off : Nat} {L : List V3} (h : RdV w (some ⟨b, off, none⟩) L) : ∀ j u, (cells3 L)[j]? = some u → w.cell? ((⟨b, off, none⟩ : Addr).add j) = some u := by
  intro j u hj
  have hl : j < L.length * 3 := by rw [← cells3_length]; exact (List.getElem?_eq_some_iff.1 hj).1
  obtain ⟨i, r, rfl, hr⟩ : ∃ i r, j = i * 3 + r ∧ r < 3 := ⟨j / 3, j % 3, by omega, by omega⟩
  have hi : i < L.length := by omega
  obtain ⟨b', off', e, h0, h1, h2⟩ := h i hi
  simp only [Option.some.injEq, Addr.mk.injEq, and_true] at e
  obtain ⟨rfl, rfl⟩ := e
  obtain ⟨g0, g1, g2⟩ := cells3_get L i hi
  rw [Addr.add_lit]
  match r, hr with
  | 0, _ => rw [Nat.add_zero, g0] at hj; rw [Nat.add_zero, h0]; exact hj
  | 1, _ => rw [g1] at hj; rw [← Nat.add_assoc, h1]; exact hj
  | 2, _ => rw [g2] at hj; rw [← Nat.add_assoc, h2]; exact hj
theorem cells3_one (L : List V3) : ∀ u ∈ cells3 L, u.oneCell' = true := by
  intro u hu
  unfold cells3 at hu
  obtain ⟨v, -, hv⟩ := List.mem_flatMap.1 hu
  simp only [List.mem_cons, List.not_mem_nil, or_false] at hv
  rcases hv with rfl | rfl | rfl <;> rfl
/-- a row of these values, of the call's own -/
def NewV (w : World) (base : Nat) (a : Option Addr) (c : Nat) (L : List V3) : Prop := w.ownsRow base 85 3 (.slice a L.length c) L.length (cells3 L) ∧ LieV a L.length c
theorem NewV.rd {w : World} {base c : Nat} {a : Option Addr} {L : List V3} (h : NewV w base a c L) : RdV w a L := by
  obtain ⟨a', c', e, hr, _⟩ := rdV_owns h.1
  simp only [Value.slice.injEq] at e
  rw [e.1]; exact hr
theorem NewV.of {w : World} {base c g : Nat} {L : List V3} (h : w.ownsRow base 85 3 (.slice (some ⟨g, 0, none⟩) L.length c) L.length (cells3 L)) : NewV w base (some ⟨g, 0, none⟩) c L := ⟨h, (OwnV.of h).lies⟩
theorem NewV.later {w w' : World} {base c : Nat} {a : Option Addr} {L : List V3} (h : NewV w base a c L) (hb : Below w.heap.size w w') : NewV w' base a c L := ⟨ownsRow_below h.1 hb, h.2⟩
theorem NewV.low {w : World} {base base' c : Nat} {a : Option Addr} {L : List V3} (h : NewV w base a c L) (hb : base' ≤ base) : NewV w base' a c L := by
  refine ⟨⟨h.1.1, ?_⟩, h.2⟩
  rcases h.1.2 with h2 | ⟨g, cap, cur, h1, hb', rest⟩
  · exact .inl h2
  · exact .inr ⟨g, cap, cur, h1, by omega, rest⟩
theorem NewV.grown {w w' : World} {base c q : Nat} {a : Option Addr} {L : List V3} (h : NewV w base a c L) (hg : w.grownBy w' (some q)) (hq : q < base) : NewV w' base a c L := by
  refine ⟨World.ownsRow.kept h.1 hg (.inr (fun e => ?_)), h.2⟩
  have := (h.1.lt q e).1
  omega
theorem NewV.own {w : World} {base c : Nat} {a : Option Addr} {L : List V3} (h : NewV w base a c L) (hne : L ≠ []) : ∃ g, a = some ⟨g, 0, none⟩ ∧ base ≤ g ∧ OwnV w g c L := by
  rcases h.1.2 with ⟨h1, h0⟩ | ⟨g, cap, cur, h1, hb, rest⟩
  · exact absurd (List.eq_nil_of_length_eq_zero h0) hne
  · simp only [Value.slice.injEq] at h1
    obtain ⟨rfl, -, rfl⟩ := h1
    exact ⟨g, rfl, hb, OwnV.of h.1⟩
theorem NewV.nil (w : World) (base : Nat) : NewV w base none 0 [] := ⟨World.ownsRow_nil _ _ _ _, LieV.nil⟩
theorem empty_new (w : World) (base : Nat) (hb : base ≤ w.heap.size) : (w.alloc (.cells #[] 85)).ownsRow base 85 3 (.slice (some ⟨w.heap.size, 0, none⟩) 0 0) ([] : List V3).length (cells3 []) := World.ownsRow_lit w #[] 0 hb (Nat.zero_le _) rfl

set_option maxRecDepth 100000 in
set_option maxHeartbeats 1600000 in
theorem clone_any (a : Option Addr) (cap : Nat) (L : List V3) (w : World) (hr : RdV w a L) (hl : LieV a L.length cap) (hn : L.length ≤ 1048580) :
    Calls Tryd.prog 70 #[.slice a L.length cap] w fun e w' => ∃ a' c', e = .returned (.slice a' L.length c') ∧ NewV w' w.heap.size a' c' L ∧ Below w.heap.size w w' := by
  obtain ⟨i0, hi, hz0, hz1, hz2⟩ := info_parts Tryd.info85
  have HL := hide hl
  clear hl
  cases a with
  | none =>
    have hL : L = [] := by
      rcases HL.out with ⟨-, h0, -⟩ | ⟨b, off, e, -⟩
      · exact List.eq_nil_of_length_eq_zero h0
      · cases e
    have hc : cap = 0 := by
      rcases HL.out with ⟨-, -, h0⟩ | ⟨b, off, e, -⟩
      · exact h0
      · cases e
    subst hL hc
    have he : ∀ W : World, (binOp .eql 39 (.slice none 0 0) (.slice none 0 0)).run Tryd.prog W = .ok (.bool true) W := fun _ => rfl
    go_enter Tryd.func70, Tryd.ntmps70
    go_wp2
    go_ret
    exact ⟨none, 0, rfl, NewV.nil _ _, Below.refl _ _⟩
  | some ad =>
    have he : ∀ (W : World) (n c : Nat), (binOp .eql 39 (.slice (some ad) n c) (.slice none 0 0)).run Tryd.prog W = .ok (.bool false) W := fun _ _ _ => rfl
    have b0 := below_al w (.cells #[] 85)
    have HE := hide (empty_new w w.heap.size (Nat.le_refl _))
    by_cases hL : L = []
    · subst hL
      go_enter Tryd.func70, Tryd.ntmps70
      go_wp2_with (at_builtin; refine wpList_append_zero rfl (.tmp 5) (.tmp 6) 39 rfl 85 i0 Tryd.underlying39 hi (some ⟨w.heap.size, 0, none⟩) 0 0 rfl (Nat.le_refl _) (some ad) cap rfl ?_)
      go_ret
      exact ⟨_, _, rfl, NewV.of HE.out, b0⟩
    · obtain ⟨b, off, e0, hbw, -⟩ := hr.open (List.length_pos_iff.2 hL)
      simp only [Option.some.injEq] at e0
      subst e0
      have HSrc := hide (rdV_src (hr.below b0))
      have hpos : 0 < L.length := List.length_pos_iff.2 hL
      obtain ⟨n, hN⟩ : ∃ n, n = L.length := ⟨_, rfl⟩
      have hC := cells3_length L
      rw [← hN] at hn hpos hC ⊢
      have HN := hide hN
      have HC := hide hC
      clear hN hC hr hL
      go_enter Tryd.func70, Tryd.ntmps70
      go_wp2_with (at_builtin; refine wpList_append_lies _ rfl (.tmp 5) (.tmp 6) 39 rfl w.heap.size 85 i0 (.agg #[.int .i64 0, .int .i64 0, .string ⟨#[]⟩]) 3 32 Tryd.underlying39 hi hz0 hz1 hz2 rfl (by omega) (.slice (some ⟨w.heap.size, 0, none⟩) 0 0) 0 [] rfl HE.out ⟨b, off, none⟩ n cap (cells3 L) ?hx HC.out HSrc.out (cells3_one L) hpos (by unfold maxLen; omega) (by omega) b0.size _ rfl ?_)
      case hx => simp [Act.eval]
      intro g5 c5 w5 ho5 hg5 hat5 hlt5
      have HO5 : Hid (NewV w5 w.heap.size (some ⟨g5, 0, none⟩) c5 L) := by
        refine NewV.of ?_
        rw [← HN.out]
        simpa using ho5
      have B5 := b0.grown hg5 b0.size (fun k hk => (HE.out.lt k hk).1)
      clear ho5 hg5 hat5 hlt5
      go_wp2
      go_ret
      exact ⟨_, _, rfl, HO5.out, B5⟩

set_option maxRecDepth 100000 in
set_option maxHeartbeats 1600000 in
theorem l3Copy_any (kd : ByteArray) (a : Option Addr) (cap : Nat) (L : List V3) (w : World) (hr : RdV w a L) (hn : L.length ≤ 1048580) :
    Calls Tryd.prog 63 #[.agg #[.string kd, .slice a L.length cap]] w fun e w' => ∃ a' c', e = .returned (.agg #[.string kd, .slice a' L.length c']) ∧ NewV w' w.heap.size a' c' L ∧ Below w.heap.size w w' := by
  obtain ⟨i0, hi, hz0, hz1, hz2⟩ := info_parts Tryd.info85
  have b0 := below_al w (.cells #[.string kd, .slice a L.length cap] 41)
  have b1 := b0.alloc b0.size (.cells #[.string ⟨#[]⟩, .slice none 0 0] 41)
  have b2 := b1.alloc b1.size (.cells #[] 85)
  have hX := box_old (box_old (box2_new w (.string kd) (.slice a L.length cap) 41) (by simp) (.cells #[.string ⟨#[]⟩, .slice none 0 0] 41)) (by simp; omega) (.cells #[] 85)
  have hR := box_old (box2_new (w.alloc (.cells #[.string kd, .slice a L.length cap] 41)) (.string ⟨#[]⟩) (.slice none 0 0) 41) (by simp) (.cells #[] 85)
  have hE := empty_new ((w.alloc (.cells #[.string kd, .slice a L.length cap] 41)).alloc (.cells #[.string ⟨#[]⟩, .slice none 0 0] 41)) (w.heap.size + 1 + 1) (by simp)
  simp only [World.size_alloc] at hX hR hE
  by_cases hL : L = []
  · subst hL
    clear hX hR hE
    have HB := hide (((below_al w (.cells #[.string kd, .slice (some ⟨w.heap.size + 1 + 1, 0, none⟩) 0 0] 41)).alloc (by simp) (.cells #[.string kd, .slice (some ⟨w.heap.size + 1 + 1, 0, none⟩) 0 0] 41)).alloc (by simp; omega) (.cells #[] 85))
    have hE := empty_new ((w.alloc (.cells #[.string kd, .slice (some ⟨w.heap.size + 1 + 1, 0, none⟩) 0 0] 41)).alloc (.cells #[.string kd, .slice (some ⟨w.heap.size + 1 + 1, 0, none⟩) 0 0] 41)) w.heap.size (by simp; omega)
    simp only [World.size_alloc] at hE
    have HE := hide (NewV.of hE)
    clear hE b0 b1 b2
    go_enter Tryd.func63, Tryd.ntmps63
    go_wp2_with (at_builtin; refine wpList_append_zero rfl (.tmp 3) (.tmp 5) 39 rfl 85 i0 Tryd.underlying39 hi (some ⟨w.heap.size + 1 + 1, 0, none⟩) 0 0 rfl (Nat.le_refl _) a cap rfl ?_)
    exact bodyPost_ret (v := .agg #[.string kd, .slice (some ⟨w.heap.size + 1 + 1, 0, none⟩) 0 0]) (by simp [results, Tryd.results63, go_sem]) rfl ⟨_, _, rfl, HE.out, HB.out⟩
  · obtain ⟨b, off, e0, hbw, -⟩ := hr.open (List.length_pos_iff.2 hL)
    subst e0
    have HSrc := hide (rdV_src (hr.below b2))
    have hpos : 0 < L.length := List.length_pos_iff.2 hL
    obtain ⟨n, hN⟩ : ∃ n, n = L.length := ⟨_, rfl⟩
    have hC := cells3_length L
    rw [← hN] at hn hpos hC hX hR b0 b1 b2 HSrc hE ⊢
    have HN := hide hN
    have HC := hide hC
    have HX := hide hX
    have HR := hide hR
    have HE := hide hE
    have HB := hide b2
    have HZ : Hid (w.heap.size + 1 + 1 ≤ (((w.alloc (.cells #[.string kd, .slice (some ⟨b, off, none⟩) n cap] 41)).alloc (.cells #[.string ⟨#[]⟩, .slice none 0 0] 41)).alloc (.cells #[] 85)).heap.size) := by unfold Hid; simp
    clear hN hC hr hL hX hR hE b0 b1 b2
    go_enter Tryd.func63, Tryd.ntmps63
    go_wp2_with (at_builtin; refine wpList_append_lies _ rfl (.tmp 3) (.tmp 5) 39 rfl (w.heap.size + 1 + 1) 85 i0 (.agg #[.int .i64 0, .int .i64 0, .string ⟨#[]⟩]) 3 32 Tryd.underlying39 hi hz0 hz1 hz2 rfl (by omega) (.slice (some ⟨w.heap.size + 1 + 1, 0, none⟩) 0 0) 0 [] rfl HE.out ⟨b, off, none⟩ n cap (cells3 L) ?hx HC.out HSrc.out (cells3_one L) hpos (by unfold maxLen; omega) (by omega) HZ.out _ rfl ?_)
    case hx => simp [Act.eval]
    intro g5 c5 w5 ho5 hg5 hat5 hlt5
    have HV5 : Hid (NewV w5 (w.heap.size + 1 + 1) (some ⟨g5, 0, none⟩) c5 L) := by
      refine NewV.of ?_
      rw [← HN.out]
      simpa using ho5
    have B5 := HB.out.grown hg5 HB.out.size (fun k hk => Nat.le_trans (by omega) (HE.out.lt k hk).1)
    have HX5 := hide (box_gr HX.out hg5 (show w.heap.size ≠ w.heap.size + 1 + 1 by omega))
    have HR5 := hide (box_gr HR.out hg5 (show w.heap.size + 1 ≠ w.heap.size + 1 + 1 by omega))
    clear ho5 hg5 hat5 hlt5 HSrc HX HR HE HB HZ
    obtain ⟨x0, x1, xf0, xf1⟩ := box2_cell HX5.out
    obtain ⟨r0, r1, rf0, rf1⟩ := box2_cell HR5.out
    have HS := hide (box2_set1 HX5.out (.slice (some ⟨g5, 0, none⟩) n c5))
    have HR2 := hide (box_gr HR5.out HS.out.2 (by omega))
    go_wp2
    refine box2_post HR2.out (fun w4 h4 gr => ?_)
    clear x0 x1 xf0 xf1 r0 r1 rf0 rf1
    obtain ⟨c0, c1, -, -⟩ := box2_cell h4
    exact bodyPost_ret (v := .agg #[.string kd, .slice (some ⟨g5, 0, none⟩) n c5]) (by simp [results, Tryd.results63, go_sem, c0, c1]) rfl
      ⟨_, _, rfl, ((HV5.out.grown HS.out.2 (by omega)).grown gr (by omega)).low (by omega), below_set (B5.grown HS.out.2 B5.size (fun k hk => by cases hk; omega)) gr (by omega)⟩

theorem box_drew {w w' : World} {R : Nat} {o : Obj} (h : w.heap[R]? = some o) (hb : Below w.drew.heap.size w.drew w') : w'.heap[R]? = some o := box_step (w := w.drew) h hb

set_option maxRecDepth 100000 in
set_option maxHeartbeats 3200000 in
theorem copyFact_any (kd : ByteArray) (a : Option Addr) (cap : Nat) (L : List V3) (w : World) (hr : RdV w a L) (hl : LieV a L.length cap) (hn : L.length ≤ 1048580) :
    Calls Tryd.prog 44 #[.agg #[.string kd, .slice a L.length cap]] w fun e w' => ∃ a' c', e = .returned (.agg #[.string kd, .slice a' L.length c']) ∧ NewV w' w.heap.size a' c' L ∧ Below w.heap.size w w' := by
  have b0 := below_al w (.cells #[.string kd, .slice a L.length cap] 41)
  have b1 := b0.alloc b0.size (.cells #[.string ⟨#[]⟩, .slice none 0 0] 41)
  have hX := box_old (box2_new w (.string kd) (.slice a L.length cap) 41) (by simp) (.cells #[.string ⟨#[]⟩, .slice none 0 0] 41)
  have hR := box2_new (w.alloc (.cells #[.string kd, .slice a L.length cap] 41)) (.string ⟨#[]⟩) (.slice none 0 0) 41
  have hz : w.heap.size + 1 + 1 ≤ ((w.alloc (.cells #[.string kd, .slice a L.length cap] 41)).alloc (.cells #[.string ⟨#[]⟩, .slice none 0 0] 41)).heap.size := by simp
  simp only [World.size_alloc] at hX hR
  have HL := hide hl
  clear hl
  go_enter Tryd.func44, Tryd.ntmps44
  go_wp2_with fail
  have r1 := hr.below b1
  generalize (w.alloc (.cells #[.string kd, .slice a L.length cap] 41)).alloc (.cells #[.string ⟨#[]⟩, .slice none 0 0] 41) = w1 at b1 hX hR r1 hz ⊢
  have HX := hide hX
  have HR := hide hR
  obtain ⟨x0, x1, -, -⟩ := box2_cell hX
  have r1d : RdV w1.drew a L := r1.heap rfl
  clear b0 hX hR hr
  go_region_with (first | (go_at_call 70; refine (clone_any a cap L _ r1d HL.out hn).mono ?_; rintro e w2 ⟨a', c', rfl, hv, hb⟩; obtain ⟨y0, y1, -, -⟩ := box2_cell (box_drew HX.out hb); obtain ⟨z0, z1, zf0, zf1⟩ := box2_cell (box_drew HR.out hb)))
  all_goals
    have hB : Below w.heap.size w w2 := b1.trans ((below_dr hb).mono b1.size)
    have hR2 := box_drew HR.out hb
    go_wp2
    refine box2_post hR2 (fun w4 h4 gr => ?_)
    clear x0 x1 y0 y1 z0 z1 zf0 zf1
    obtain ⟨c0, c1, -, -⟩ := box2_cell h4
    exact bodyPost_ret (v := .agg #[.string kd, .slice a' L.length c']) (by simp [results, Tryd.results44, go_sem, c0, c1]) rfl
      ⟨_, _, rfl, (hv.grown gr (by simp; omega)).low (by simp; omega), below_set hB gr (by omega)⟩
end Go.Proofs.YtaflokfgbmlmaadDoor
