/-
  The contract of the draw of two values.
-/
import Derived.Test.YtoppajcjpbdgjaaDrawA
import Derived.Deep.RegionHeld3
import Derived.RegionTactic
namespace Go.Proofs.Ytoppajcjpbdgjaa
open Go.RowKit
set_option linter.unusedVariables false

theorem keep3g {W w' : World} {V Q : Nat} {v0 v1 v2 : Value} (hg : W.grownBy w' (some Q)) (h : W.cell? ⟨V, 0, none⟩ = some v0 ∧ W.cell? ⟨V, 1, none⟩ = some v1 ∧ W.cell? ⟨V, 2, none⟩ = some v2) (hn : V ≠ Q) :
    w'.cell? ⟨V, 0, none⟩ = some v0 ∧ w'.cell? ⟨V, 1, none⟩ = some v1 ∧ w'.cell? ⟨V, 2, none⟩ = some v2 :=
  ⟨hg.cell h.1 (by simp; exact hn), hg.cell h.2.1 (by simp; exact hn), hg.cell h.2.2 (by simp; exact hn)⟩
/-- at a return behind stores of two values: the world by what it holds -/
theorem box_post2 {P : Program} {f : Func} {Q : Ending → World → Prop} {x : Exit} {act : Act} {w : World} {qa qb : Nat} {c0 c1 c2 d0 d1 d2 a b c a' b' c' : Value} {T T' : TypeId} (h : w.heap[qa]? = some (.cells #[c0, c1, c2] T (0, 0))) (h' : w.heap[qb]? = some (.cells #[d0, d1, d2] T' (0, 0))) (hne : qa ≠ qb)
    (k : ∀ w2, w2.heap[qa]? = some (.cells #[a, b, c] T (0, 0)) → w2.heap[qb]? = some (.cells #[a', b', c'] T' (0, 0)) → (∀ B, B ≤ qa → B ≤ qb → Below B w w2) → bodyPost P f Q x act w2) :
    bodyPost P f Q x act ((((((w.setCell ⟨qa, 0, none⟩ a).setCell ⟨qa, 1, none⟩ b).setCell ⟨qa, 2, none⟩ c).setCell ⟨qb, 0, none⟩ a').setCell ⟨qb, 1, none⟩ b').setCell ⟨qb, 2, none⟩ c').drew := by
  obtain ⟨e1, g1⟩ := box_set3 h a b c
  have h2 := box_grown h' g1 (by omega)
  obtain ⟨e2, g2⟩ := box_set3 h2 a' b' c'
  have l1 := (Array.getElem?_eq_some_iff.1 h).1
  have l2 := (Array.getElem?_eq_some_iff.1 h').1
  have e3 := box_grown e1 g2 hne
  generalize ((w.setCell ⟨qa, 0, none⟩ a).setCell ⟨qa, 1, none⟩ b).setCell ⟨qa, 2, none⟩ c = X at e1 g1 h2 e2 g2 e3 ⊢
  generalize ((X.setCell ⟨qb, 0, none⟩ a').setCell ⟨qb, 1, none⟩ b').setCell ⟨qb, 2, none⟩ c' = Y at e2 g2 e3 ⊢
  refine k Y.drew e3 e2 (fun B hA hB => ?_)
  have b1 : Below B w X := (Below.refl B w).grown g1 (by omega) (fun k hk => by cases hk; exact hA)
  exact (b1.grown g2 (by have := b1.size; omega) (fun k hk => by cases hk; exact hB)).drew

/-- at a return behind stores of two values: the world by what it holds -/
theorem box_post2n {P : Program} {f : Func} {Q : Ending → World → Prop} {x : Exit} {act : Act} {w : World} {qa qb : Nat} {c0 c1 c2 d0 d1 d2 a b c a' b' c' : Value} {T T' : TypeId} (h : w.heap[qa]? = some (.cells #[c0, c1, c2] T (0, 0))) (h' : w.heap[qb]? = some (.cells #[d0, d1, d2] T' (0, 0))) (hne : qa ≠ qb)
    (k : ∀ w2, w2.heap[qa]? = some (.cells #[a, b, c] T (0, 0)) → w2.heap[qb]? = some (.cells #[a', b', c'] T' (0, 0)) → (∀ B, B ≤ qa → B ≤ qb → Below B w w2) → bodyPost P f Q x act w2) :
    bodyPost P f Q x act ((((((w.setCell ⟨qa, 0, none⟩ a).setCell ⟨qa, 1, none⟩ b).setCell ⟨qa, 2, none⟩ c).setCell ⟨qb, 0, none⟩ a').setCell ⟨qb, 1, none⟩ b').setCell ⟨qb, 2, none⟩ c') := by
  obtain ⟨e1, g1⟩ := box_set3 h a b c
  have h2 := box_grown h' g1 (by omega)
  obtain ⟨e2, g2⟩ := box_set3 h2 a' b' c'
  have l1 := (Array.getElem?_eq_some_iff.1 h).1
  have l2 := (Array.getElem?_eq_some_iff.1 h').1
  have e3 := box_grown e1 g2 hne
  generalize ((w.setCell ⟨qa, 0, none⟩ a).setCell ⟨qa, 1, none⟩ b).setCell ⟨qa, 2, none⟩ c = X at e1 g1 h2 e2 g2 e3 ⊢
  generalize ((X.setCell ⟨qb, 0, none⟩ a').setCell ⟨qb, 1, none⟩ b').setCell ⟨qb, 2, none⟩ c' = Y at e2 g2 e3 ⊢
  refine k Y e3 e2 (fun B hA hB => ?_)
  have b1 : Below B w X := (Below.refl B w).grown g1 (by omega) (fun k hk => by cases hk; exact hA)
  exact (b1.grown g2 (by have := b1.size; omega) (fun k hk => by cases hk; exact hB))

set_option maxRecDepth 100000 in
set_option maxHeartbeats 1600000 in
theorem drawLessVal_any (a : Option Addr) (cap : Nat) (code : List UInt8) (w : World) (hr : Rd w a code) (hn : code.length ≤ 1048576) :
    Calls Try.prog 21 #[.slice a code.length cap] w fun e w' =>
      ∃ K N S K' N' S', e = .returned (.tuple #[.agg #[.int .i64 K, .int .i64 N, .string S], .agg #[.int .i64 K', .int .i64 N', .string S']]) ∧ S.size ≤ 21 ∧ S'.size ≤ 21 ∧ Below w.heap.size w w' := by
  have hr2 : ∀ o o', RdB w.heap.size ((w.alloc o).alloc o') a code := fun o o' => (hr.toB.below ((Below.refl _ _).alloc (Nat.le_refl _) _)).below ((Below.refl _ _).alloc (by simp) _)
  have HR2 := hide hr2
  clear hr2
  go_enter Try.func21, Try.ntmps21
  go_wp2_with fail
  refine (l1New_any w.heap.size a cap code _ (HR2.out _ _) hn (by simp; omega)).mono ?_
  rintro e w1 ⟨rfl, c1, g1⟩
  have hz1 := g1.size
  simp only [World.size_alloc] at hz1 c1 ⊢
  have HA := hide (box_below (box_old (box_new w (.int .i64 0) (.int .i64 0) (.string ⟨#[]⟩) 39) (by simp) (.cells #[.int .i64 0, .int .i64 0, .string ⟨#[]⟩] 39)) ((Below.refl _ _).grown g1 (Nat.le_refl _) (fun k hk => by cases hk)) (by simp; omega))
  have HB := hide (box_below (box_new (w.alloc (.cells #[.int .i64 0, .int .i64 0, .string ⟨#[]⟩] 39)) (.int .i64 0) (.int .i64 0) (.string ⟨#[]⟩) 39) ((Below.refl _ _).grown g1 (Nat.le_refl _) (fun k hk => by cases hk)) (by simp))
  simp only [World.size_alloc] at HB
  have B1 : Below w.heap.size w w1 := (((Below.refl w.heap.size w).alloc (Nat.le_refl _) _).alloc (by simp) _).grown g1 (by simp; omega) (fun k hk => by cases hk)
  clear g1
  obtain ⟨Q, HQ⟩ : ∃ Q, Hid (w.heap.size + 1 + 1 = Q) := ⟨_, rfl⟩
  have hQ : w.heap.size + 2 = Q := by rw [← HQ.out]
  rw [HQ.out] at c1 hz1 ⊢
  have hQ1 : w.heap.size + 2 ≤ Q := by omega
  clear HQ hQ
  go_wp2_with fail
  refine (l2Any_any w.heap.size Q _ c1).mono ?_
  rintro e w2 ⟨K, N, S, rfl, hS, c2, g2⟩
  have HA2 := hide (box_grown HA.out g2 (by omega))
  have HB2 := hide (box_grown HB.out g2 (by omega))
  have B2 : Below w.heap.size w w2 := B1.grown g2 B1.size (fun k hk => by cases hk; omega)
  have hz2 := g2.size
  have hQ2 := c1.lt
  clear g2 HA HB B1 c1
  go_wp2_with fail
  refine (l1Once_any w.heap.size Q 4 _ (c2.keep (World.grownBy_alloc w2 _ none) (by simp) (by simp)) (by omega) (by omega)).mono ?_
  rintro e w3 ⟨b, rfl, c3, g3⟩
  have HA3 := hide (box_grown (box_alloc HA2.out _) g3 (by omega))
  have HB3 := hide (box_grown (box_alloc HB2.out _) g3 (by omega))
  have HV3 := hide (box_grown (box_new w2 (.int .i64 K) (.int .i64 N) (.string S) 39) g3 (by omega))
  have B3 : Below w.heap.size w w3 := (B2.alloc B2.size _).grown g3 (by have := B2.size; simp; omega) (fun k hk => by cases hk; omega)
  obtain ⟨V, HVq⟩ : ∃ V, Hid (w2.heap.size = V) := ⟨_, rfl⟩
  have hV1 : Q < V := by rw [← HVq.out]; omega
  rw [HVq.out] at HV3 ⊢
  clear g3 HA2 HB2 B2 c2 HVq
  obtain ⟨a0, a1, a2, f0, f1, f2⟩ := box_cell HA3.out
  obtain ⟨b0, b1, b2, g0, g1, g2⟩ := box_cell HB3.out
  obtain ⟨v0, v1, v2, -, -, -⟩ := box_cell HV3.out
  have n1 : V ≠ w.heap.size := by omega
  have n2 : V ≠ w.heap.size + 1 := by omega
  have n3 : w.heap.size ≠ V := by omega
  have n4 : w.heap.size + 1 ≠ V := by omega
  have n5 : V ≠ Q := by omega
  have HC1 : Hid (Cur w.heap.size w3.drew Q) := c3.keep (row := none) ⟨rfl, rfl, rfl, Nat.le_refl _, fun _ _ _ => rfl⟩ (by simp) (by simp)
  have HK1 : Hid (∀ w4, w3.drew.grownBy w4 (some Q) → w4.heap[w.heap.size]? = some (.cells #[.int .i64 0, .int .i64 0, .string ⟨#[]⟩] 39 (0, 0)) ∧ w4.heap[w.heap.size + 1]? = some (.cells #[.int .i64 0, .int .i64 0, .string ⟨#[]⟩] 39 (0, 0))) := fun w4 g4 =>
    ⟨box_grown (w := w3.drew) HA3.out g4 (by omega), box_grown (w := w3.drew) HB3.out g4 (by omega)⟩
  cases b
  · go_wp2_with fail
    go_region_held3 (fun w' => w'.cell? ⟨V, 0, none⟩ = some (.int .i64 K) ∧ w'.cell? ⟨V, 1, none⟩ = some (.int .i64 N) ∧ w'.cell? ⟨V, 2, none⟩ = some (.string S)) (first | go_keep | exact keep3g (by assumption) (by assumption) n5)
      (first | (go_at_call 35; refine (l2Any_any w.heap.size Q _ ?_).mono ?_; (with_reducible exact HC1.out); rintro e w4 ⟨K', N', S', rfl, hS', c4, g4⟩; have HA4 := hide (HK1.out _ g4).1; have HB4 := hide (HK1.out _ g4).2; obtain ⟨a0, a1, a2, f0, f1, f2⟩ := box_cell HA4.out; obtain ⟨b0, b1, b2, g0, g1, g2⟩ := box_cell HB4.out))
    have HA4 := hide (HK1.out _ g4).1
    have HB4 := hide (HK1.out _ g4).2
    have B4 : Below w.heap.size w w4 := (B3.drew).grown g4 (by have := B3.size; exact this) (fun k hk => by cases hk; omega)
    go_wp2
    refine box_post2n HA4.out HB4.out (by omega) (fun w5 h4 h5 hbb => ?_)
    clear a0 a1 a2 f0 f1 f2 b0 b1 b2 g0 g1 g2 v0 v1 v2
    obtain ⟨a0, a1, a2, -, -, -⟩ := box_cell h4
    obtain ⟨b0, b1, b2, -, -, -⟩ := box_cell h5
    refine bodyPost_ret (v := .tuple #[.agg #[.int .i64 K, .int .i64 N, .string S], .agg #[.int .i64 K', .int .i64 N', .string S']]) (by simp [results, Try.results21, go_sem, a0, a1, a2, b0, b1, b2]) rfl ⟨_, _, _, _, _, _, rfl, hS, hS', B4.trans (hbb _ (Nat.le_refl _) (by omega))⟩
  · go_wp2_with fail
    go_region_held3 (fun w' => w'.cell? ⟨V, 0, none⟩ = some (.int .i64 K) ∧ w'.cell? ⟨V, 1, none⟩ = some (.int .i64 N) ∧ w'.cell? ⟨V, 2, none⟩ = some (.string S)) (go_keep) (fail)
    all_goals go_wp2
    all_goals
      refine box_post2 HA3.out HB3.out (by omega) (fun w4 h4 h5 hbb => ?_)
      clear a0 a1 a2 f0 f1 f2 b0 b1 b2 g0 g1 g2 v0 v1 v2
      obtain ⟨a0, a1, a2, -, -, -⟩ := box_cell h4
      obtain ⟨b0, b1, b2, -, -, -⟩ := box_cell h5
      refine bodyPost_ret (v := .tuple #[.agg #[.int .i64 K, .int .i64 N, .string S], .agg #[.int .i64 K, .int .i64 N, .string S]]) (by simp [results, Try.results21, go_sem, a0, a1, a2, b0, b1, b2]) rfl ⟨_, _, _, _, _, _, rfl, hS, hS, B3.trans (hbb _ (Nat.le_refl _) (by omega))⟩
end Go.Proofs.Ytoppajcjpbdgjaa
