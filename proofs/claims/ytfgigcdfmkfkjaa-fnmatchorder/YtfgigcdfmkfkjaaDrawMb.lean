/-
  The draws of two matches: DrawSameMatch, DrawLessMatch.
-/
import Derived.Test.YtfgigcdfmkfkjaaDrawMa
import Derived.Test.YtfgigcdfmkfkjaaDrawLess
import Derived.Test.YtfgigcdfmkfkjaaBox11
namespace Go.Proofs.Ytfgigcdfmkfkjaa
open Go.RowKit
set_option linter.unusedVariables false
set_option maxRecDepth 100000

theorem box_post2r {P : Program} {f : Func} {Q : Ending → World → Prop} {x : Exit} {act : Act} {w : World} {qa qb : Nat} {c0 c1 c2 d0 d1 d2 a b c a' b' c' : Value} {T T' : TypeId} (h : w.heap[qa]? = some (.cells #[c0, c1, c2] T (0, 0))) (h' : w.heap[qb]? = some (.cells #[d0, d1, d2] T' (0, 0))) (hne : qa ≠ qb)
    (k : ∀ w2, w2.heap[qa]? = some (.cells #[a, b, c] T (0, 0)) → w2.heap[qb]? = some (.cells #[a', b', c'] T' (0, 0)) → (∀ B, B ≤ qa → B ≤ qb → Below B w w2) → (∀ base T n v xs, w.ownsRow base T 1 v n xs → qa < base → qb < base → w2.ownsRow base T 1 v n xs) → bodyPost P f Q x act w2) :
    bodyPost P f Q x act ((((((w.setCell ⟨qa, 0, none⟩ a).setCell ⟨qa, 1, none⟩ b).setCell ⟨qa, 2, none⟩ c).setCell ⟨qb, 0, none⟩ a').setCell ⟨qb, 1, none⟩ b').setCell ⟨qb, 2, none⟩ c') := by
  obtain ⟨e1, g1⟩ := box_set3 h a b c
  have h2 := box_grown h' g1 (by omega)
  obtain ⟨e2, g2⟩ := box_set3 h2 a' b' c'
  have e3 := box_grown e1 g2 hne
  have hk : ∀ {W W' : World} {q base n : Nat} {T : TypeId} {v : Value} {xs : List Value}, W.ownsRow base T 1 v n xs → W.grownBy W' (some q) → q < base → W'.ownsRow base T 1 v n xs := fun {W W' q base n T v xs} h g hq => h.kept g (by
    cases hv2 : v.ownBlock with
    | none => exact .inl rfl
    | some k => right; intro e; have := (h.lt k hv2).1; cases e; omega)
  generalize ((w.setCell ⟨qa, 0, none⟩ a).setCell ⟨qa, 1, none⟩ b).setCell ⟨qa, 2, none⟩ c = X at e1 g1 h2 e2 g2 e3 ⊢
  generalize ((X.setCell ⟨qb, 0, none⟩ a').setCell ⟨qb, 1, none⟩ b').setCell ⟨qb, 2, none⟩ c' = Y at e2 g2 e3 ⊢
  refine k Y e3 e2 (fun B hA hB => ?_) (fun base T n v xs ho ha hb => hk (hk ho g1 ha) g2 hb)
  have b1 : Below B w X := (Below.refl B w).grown g1 (by have := (Array.getElem?_eq_some_iff.1 h).1; omega) (fun k hk => by cases hk; exact hA)
  exact b1.grown g2 (by have := b1.size; have := (Array.getElem?_eq_some_iff.1 h).1; omega) (fun k hk => by cases hk; exact hB)
theorem box_post2rd {P : Program} {f : Func} {Q : Ending → World → Prop} {x : Exit} {act : Act} {w : World} {qa qb : Nat} {c0 c1 c2 d0 d1 d2 a b c a' b' c' : Value} {T T' : TypeId} (h : w.heap[qa]? = some (.cells #[c0, c1, c2] T (0, 0))) (h' : w.heap[qb]? = some (.cells #[d0, d1, d2] T' (0, 0))) (hne : qa ≠ qb)
    (k : ∀ w2, w2.heap[qa]? = some (.cells #[a, b, c] T (0, 0)) → w2.heap[qb]? = some (.cells #[a', b', c'] T' (0, 0)) → (∀ B, B ≤ qa → B ≤ qb → Below B w w2) → (∀ base T n v xs, w.ownsRow base T 1 v n xs → qa < base → qb < base → w2.ownsRow base T 1 v n xs) → bodyPost P f Q x act w2) :
    bodyPost P f Q x act ((((((w.setCell ⟨qa, 0, none⟩ a).setCell ⟨qa, 1, none⟩ b).setCell ⟨qa, 2, none⟩ c).setCell ⟨qb, 0, none⟩ a').setCell ⟨qb, 1, none⟩ b').setCell ⟨qb, 2, none⟩ c').drew := by
  obtain ⟨e1, g1⟩ := box_set3 h a b c
  have h2 := box_grown h' g1 (by omega)
  obtain ⟨e2, g2⟩ := box_set3 h2 a' b' c'
  have e3 := box_grown e1 g2 hne
  have hk : ∀ {W W' : World} {q base n : Nat} {T : TypeId} {v : Value} {xs : List Value}, W.ownsRow base T 1 v n xs → W.grownBy W' (some q) → q < base → W'.ownsRow base T 1 v n xs := fun {W W' q base n T v xs} h g hq => h.kept g (by
    cases hv2 : v.ownBlock with
    | none => exact .inl rfl
    | some k => right; intro e; have := (h.lt k hv2).1; cases e; omega)
  generalize ((w.setCell ⟨qa, 0, none⟩ a).setCell ⟨qa, 1, none⟩ b).setCell ⟨qa, 2, none⟩ c = X at e1 g1 h2 e2 g2 e3 ⊢
  generalize ((X.setCell ⟨qb, 0, none⟩ a').setCell ⟨qb, 1, none⟩ b').setCell ⟨qb, 2, none⟩ c' = Y at e2 g2 e3 ⊢
  refine k Y.drew e3 e2 (fun B hA hB => ?_) (fun base T n v xs ho ha hb => (hk (hk ho g1 ha) g2 hb : Y.ownsRow base T 1 v n xs))
  have b1 : Below B w X := (Below.refl B w).grown g1 (by have := (Array.getElem?_eq_some_iff.1 h).1; omega) (fun k hk => by cases hk; exact hA)
  exact (b1.grown g2 (by have := b1.size; have := (Array.getElem?_eq_some_iff.1 h).1; omega) (fun k hk => by cases hk; exact hB)).drew
theorem ownN_slice {W : World} {base n : Nat} {T : TypeId} {v : Value} {zs : List Int} (h : W.ownsRow base T 1 v n (valsN zs)) : ∃ a c, v = .slice a zs.length c ∧ RdN W a zs := by
  obtain ⟨a, c, e, hr, -⟩ := rdN_owns h
  exact ⟨a, c, e, hr⟩
theorem ownN_grown {W W' : World} {q base n : Nat} {T : TypeId} {v : Value} {xs : List Value} (h : W.ownsRow base T 1 v n xs) (g : W.grownBy W' (some q)) (hq : q < base) : W'.ownsRow base T 1 v n xs := h.kept g (by
    cases hv2 : v.ownBlock with
    | none => exact .inl rfl
    | some k => right; intro e; have := (h.lt k hv2).1; cases e; omega)

/-- two matches were drawn -/
def Drawn2M (w : World) (e : Ending) (w' : World) : Prop := ∃ (r : Int) (a : Option Addr) (n c : Nat) (zs : List Int) (r' : Int) (a' : Option Addr) (n' c' : Nat) (ys : List Int),
  e = .returned (.tuple #[.agg #[.int .i64 r, .slice a n c, .slice none 0 0], .agg #[.int .i64 r', .slice a' n' c', .slice none 0 0]]) ∧ zs.length = n ∧ n ≤ 3 ∧ ys.length = n' ∧ n' ≤ 3 ∧ w'.ownsRow w.heap.size 3 1 (.slice a n c) n (valsN zs) ∧ w'.ownsRow w.heap.size 3 1 (.slice a' n' c') n' (valsN ys) ∧ Below w.heap.size w w'

set_option maxHeartbeats 3200000 in
theorem drawSameMatch_any (a : Option Addr) (cap : Nat) (code : List UInt8) (w : World) (hr : Rd w a code) (hn : code.length ≤ 1048576) :
    Calls Try.prog 77 #[.slice a code.length cap] w (Drawn2M w) := by
  have hr2 : ∀ o o', RdB w.heap.size ((w.alloc o).alloc o') a code := fun o o' => (hr.toB.below ((Below.refl _ _).alloc (Nat.le_refl _) _)).below ((Below.refl _ _).alloc (by simp) _)
  have HR2 := hide hr2
  clear hr2
  go_enter Try.func77, Try.ntmps77
  go_wp2_with fail
  refine (l1New_any w.heap.size a cap code _ (HR2.out _ _) hn (by simp; omega)).mono ?_
  rintro e w1 ⟨rfl, c1, g1⟩
  have hz1 := g1.size
  simp only [World.size_alloc] at hz1 c1 ⊢
  have HA := hide (box_below (box_old (boxk_new w #[.int .i64 0, .slice none 0 0, .slice none 0 0] 30) (by simp) (.cells #[.int .i64 0, .slice none 0 0, .slice none 0 0] 30)) ((Below.refl _ _).grown g1 (Nat.le_refl _) (fun k hk => by cases hk)) (by simp; omega))
  have HB := hide (box_below (boxk_new (w.alloc (.cells #[.int .i64 0, .slice none 0 0, .slice none 0 0] 30)) #[.int .i64 0, .slice none 0 0, .slice none 0 0] 30) ((Below.refl _ _).grown g1 (Nat.le_refl _) (fun k hk => by cases hk)) (by simp))
  simp only [World.size_alloc] at HB
  have B1 : Below w.heap.size w w1 := (((Below.refl w.heap.size w).alloc (Nat.le_refl _) _).alloc (by simp) _).grown g1 (by simp; omega) (fun k hk => by cases hk)
  clear g1
  obtain ⟨Q, HQ⟩ : ∃ Q, Hid (w.heap.size + 1 + 1 = Q) := ⟨_, rfl⟩
  have hQ : w.heap.size + 2 = Q := by rw [← HQ.out]
  rw [HQ.out] at c1 hz1 ⊢
  have hQ1 : w.heap.size + 2 ≤ Q := by omega
  clear HQ hQ
  go_wp2_with fail
  have hq1 := c1.lt
  refine (l11Match_any w.heap.size Q _ c1).mono ?_
  rintro e w2 ⟨r, v, zs, rfl, hl, o2, c2, g2⟩
  have HA2 := hide (box_grown HA.out g2 (by omega))
  have HB2 := hide (box_grown HB.out g2 (by omega))
  have B2 : Below w.heap.size w w2 := B1.grown g2 B1.size (fun k hk => by cases hk; omega)
  have hz2 := g2.size
  obtain ⟨x, n, cc, hv⟩ : ∃ x n cc, v = .slice x n cc := by
    obtain ⟨x, cc, e, -⟩ := ownN_slice o2
    exact ⟨x, _, cc, e⟩
  subst hv
  clear g2 HA HB B1 c1
  go_wp2_with fail
  refine (l1Once_any w.heap.size Q 2 _ (c2.keep (World.grownBy_alloc w2 _ none) (by simp) (by simp)) (by omega) (by omega)).mono ?_
  rintro e w3 ⟨b, rfl, c3, g3⟩
  have HA3 := hide (box_grown (box_alloc HA2.out _) g3 (by omega))
  have HB3 := hide (box_grown (box_alloc HB2.out _) g3 (by omega))
  have HV3 := hide (box_grown (boxk_new w2 #[.int .i64 r, .slice x n cc, .slice none 0 0] 30) g3 (by omega))
  have HO3 := hide (ownN_grown (o2.alloc (.cells #[.int .i64 r, .slice x n cc, .slice none 0 0] 30)) g3 (by omega))
  have hbase : Q < w1.heap.size := hq1
  have B3 : Below w.heap.size w w3 := (B2.alloc B2.size _).grown g3 (by have := B2.size; simp; omega) (fun k hk => by cases hk; omega)
  obtain ⟨V, HVq⟩ : ∃ V, Hid (w2.heap.size = V) := ⟨_, rfl⟩
  have hV1 : Q < V := by rw [← HVq.out]; omega
  rw [HVq.out] at HV3 ⊢
  have hz3 : w1.heap.size ≤ w3.heap.size := by have := g3.size; simp at this; omega
  clear g3 HA2 HB2 B2 c2 HVq o2
  obtain ⟨a0, a1, a2, f0, f1, f2⟩ := box_cell HA3.out
  obtain ⟨b0, b1, b2, g0, g1, g2⟩ := box_cell HB3.out
  obtain ⟨v0, v1, v2, -, -, -⟩ := box_cell HV3.out
  have n1 : V ≠ w.heap.size := by omega
  have n2 : V ≠ w.heap.size + 1 := by omega
  have n3 : w.heap.size ≠ V := by omega
  have n4 : w.heap.size + 1 ≠ V := by omega
  have n5 : V ≠ Q := by omega
  have HC1 : Hid (Cur w.heap.size w3.drew Q) := c3.keep (row := none) ⟨rfl, rfl, rfl, Nat.le_refl _, fun _ _ _ => rfl⟩ (by simp) (by simp)
  have HK1 : Hid (∀ w4, w3.drew.grownBy w4 (some Q) → w4.heap[w.heap.size]? = some (.cells #[.int .i64 0, .slice none 0 0, .slice none 0 0] 30 (0, 0)) ∧ w4.heap[w.heap.size + 1]? = some (.cells #[.int .i64 0, .slice none 0 0, .slice none 0 0] 30 (0, 0))) := fun w4 g4 =>
    ⟨box_grown (w := w3.drew) HA3.out g4 (by omega), box_grown (w := w3.drew) HB3.out g4 (by omega)⟩
  cases b
  · go_wp2_with fail
    go_region_held3 (fun w' => w'.cell? ⟨V, 0, none⟩ = some (.int .i64 r) ∧ w'.cell? ⟨V, 1, none⟩ = some (.slice x n cc) ∧ w'.cell? ⟨V, 2, none⟩ = some (.slice none 0 0)) (first | go_keep | exact keep3g (by assumption) (by assumption) n5)
      (first | (go_at_call 115; refine (l11Match_any w.heap.size Q _ ?_).mono ?_; (with_reducible exact HC1.out); rintro e w4 ⟨r', v', ys, rfl, hl', o4, c4, g4⟩; obtain ⟨x', cc', e', rr'⟩ := ownN_slice o4; subst e'; have HA4 := hide (HK1.out _ g4).1; have HB4 := hide (HK1.out _ g4).2; obtain ⟨a0, a1, a2, f0, f1, f2⟩ := box_cell HA4.out; obtain ⟨b0, b1, b2, g0, g1, g2⟩ := box_cell HB4.out))
    have HA4 := hide (HK1.out _ g4).1
    have HB4 := hide (HK1.out _ g4).2
    have B4 : Below w.heap.size w w4 := (B3.drew).grown g4 (by have := B3.size; exact this) (fun k hk => by cases hk; omega)
    have HO4 : Hid (w4.ownsRow w1.heap.size 3 1 (.slice x n cc) zs.length (valsN zs)) := ownN_grown (W := w3.drew) (show w3.drew.ownsRow w1.heap.size 3 1 (.slice x n cc) zs.length (valsN zs) from HO3.out) g4 hbase
    have HO4' := hide o4
    have hb4 : Q < w3.drew.heap.size := by show Q < w3.heap.size; omega
    clear rr' o4
    go_wp2
    refine box_post2r HA4.out HB4.out (by omega) (fun w5 h4 h5 hbb hoo => ?_)
    clear a0 a1 a2 f0 f1 f2 b0 b1 b2 g0 g1 g2 v0 v1 v2
    obtain ⟨a0, a1, a2, -, -, -⟩ := box_cell h4
    obtain ⟨b0, b1, b2, -, -, -⟩ := box_cell h5
    have q1 := owns_base (base' := w.heap.size) (hoo _ _ _ _ _ HO4.out (by omega) (by omega)) (by omega)
    have q2 := owns_base (base' := w.heap.size) (hoo _ _ _ _ _ HO4'.out (by omega) (by omega)) (by omega)
    obtain ⟨y1, d1, e1, -⟩ := ownN_slice q1
    simp only [Value.slice.injEq] at e1
    rw [← e1.2.1] at q1
    refine bodyPost_ret (v := .tuple #[.agg #[.int .i64 r, .slice x n cc, .slice none 0 0], .agg #[.int .i64 r', .slice x' ys.length cc', .slice none 0 0]]) (by simp [results, Try.results77, go_sem, a0, a1, a2, b0, b1, b2]) rfl ⟨_, _, _, _, zs, _, _, _, _, ys, rfl, e1.2.1.symm, by rw [e1.2.1]; exact hl, rfl, hl', q1, q2, B4.trans (hbb _ (Nat.le_refl _) (by omega))⟩
  · go_wp2_with fail
    go_region_held3 (fun w' => w'.cell? ⟨V, 0, none⟩ = some (.int .i64 r) ∧ w'.cell? ⟨V, 1, none⟩ = some (.slice x n cc) ∧ w'.cell? ⟨V, 2, none⟩ = some (.slice none 0 0)) (go_keep) (fail)
    all_goals go_wp2
    all_goals
      refine box_post2rd HA3.out HB3.out (by omega) (fun w4 h4 h5 hbb hoo => ?_)
      clear a0 a1 a2 f0 f1 f2 b0 b1 b2 g0 g1 g2 v0 v1 v2
      obtain ⟨a0, a1, a2, -, -, -⟩ := box_cell h4
      obtain ⟨b0, b1, b2, -, -, -⟩ := box_cell h5
      have q1 := owns_base (base' := w.heap.size) (hoo _ _ _ _ _ HO3.out (by omega) (by omega)) (by omega)
      obtain ⟨y1, d1, e1, -⟩ := ownN_slice q1
      simp only [Value.slice.injEq] at e1
      rw [← e1.2.1] at q1
      refine bodyPost_ret (v := .tuple #[.agg #[.int .i64 r, .slice x n cc, .slice none 0 0], .agg #[.int .i64 r, .slice x n cc, .slice none 0 0]]) (by simp [results, Try.results77, go_sem, a0, a1, a2, b0, b1, b2]) rfl ⟨_, _, _, _, zs, _, _, _, _, zs, rfl, e1.2.1.symm, by rw [e1.2.1]; exact hl, e1.2.1.symm, by rw [e1.2.1]; exact hl, q1, q1, B3.trans (hbb _ (Nat.le_refl _) (by omega))⟩

set_option maxHeartbeats 3200000 in
theorem drawLessMatch_any (a : Option Addr) (cap : Nat) (code : List UInt8) (w : World) (hr : Rd w a code) (hn : code.length ≤ 1048576) :
    Calls Try.prog 37 #[.slice a code.length cap] w (Drawn2M w) := by
  obtain ⟨hA, hB, b2⟩ := boxes2 w #[.int .i64 0, .slice none 0 0, .slice none 0 0] #[.int .i64 0, .slice none 0 0, .slice none 0 0] 30 30
  have hr2 : Rd ((w.alloc (.cells #[.int .i64 0, .slice none 0 0, .slice none 0 0] 30)).alloc (.cells #[.int .i64 0, .slice none 0 0, .slice none 0 0] 30)) a code := hr.below b2
  go_enter Try.func37, Try.ntmps37
  go_wp2_with fail
  refine (drawSameMatch_any a cap code _ hr2 hn).mono ?_
  rintro e w1 ⟨r, x, n, c, zs, r', x', n', c', ys, rfl, l1, l2, l3, l4, d1, d2, hb⟩
  have HA := hide (box_below hA hb (by simp; omega))
  have HB := hide (box_below hB hb (by simp))
  have B1 : Below w.heap.size w w1 := b2.trans (hb.mono b2.size)
  have HD1 := hide d1
  have HD2 := hide d2
  clear hb b2 hA hB hr2 d1 d2
  obtain ⟨a0, a1, a2, f0, f1, f2⟩ := box_cell HA.out
  obtain ⟨b0, b1, b2, g0, g1, g2⟩ := box_cell HB.out
  go_wp2
  refine box_post2r HA.out HB.out (by omega) (fun w4 h4 h5 hbb hoo => ?_)
  clear a0 a1 a2 f0 f1 f2 b0 b1 b2 g0 g1 g2
  obtain ⟨a0, a1, a2, -, -, -⟩ := box_cell h4
  obtain ⟨b0, b1, b2, -, -, -⟩ := box_cell h5
  have q1 := owns_base (base' := w.heap.size) (hoo _ _ _ _ _ HD1.out (by simp; omega) (by simp)) (by simp; omega)
  have q2 := owns_base (base' := w.heap.size) (hoo _ _ _ _ _ HD2.out (by simp; omega) (by simp)) (by simp; omega)
  exact bodyPost_ret (v := .tuple #[.agg #[.int .i64 r, .slice x n c, .slice none 0 0], .agg #[.int .i64 r', .slice x' n' c', .slice none 0 0]]) (by simp [results, Try.results37, go_sem, a0, a1, a2, b0, b1, b2]) rfl ⟨_, _, _, _, zs, _, _, _, _, ys, rfl, l1, l2, l3, l4, q1, q2, B1.trans (hbb _ (Nat.le_refl _) (by omega))⟩
end Go.Proofs.Ytfgigcdfmkfkjaa
