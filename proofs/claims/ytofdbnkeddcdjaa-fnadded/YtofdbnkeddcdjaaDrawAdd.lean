/-
  The contract of the draw of two values to be added.
-/
import Derived.Test.YtofdbnkeddcdjaaDrawLess
namespace Go.Proofs.Ytofdbnkeddcdjaa
open Go.RowKit
set_option linter.unusedVariables false

set_option maxRecDepth 100000 in
set_option maxHeartbeats 1600000 in
theorem drawAddVals_any (a : Option Addr) (cap : Nat) (code : List UInt8) (w : World) (hr : Rd w a code) (hn : code.length ≤ 1048576) :
    Calls Try.prog 8 #[.slice a code.length cap] w fun e w' =>
      ∃ K N S K' N' S', e = .returned (.tuple #[.agg #[.int .i64 K, .int .i64 N, .string S], .agg #[.int .i64 K', .int .i64 N', .string S']]) ∧ S.size ≤ 21 ∧ S'.size ≤ 21 ∧ Below w.heap.size w w' := by
  have hr2 : ∀ o o', RdB w.heap.size ((w.alloc o).alloc o') a code := fun o o' => (hr.toB.below ((Below.refl _ _).alloc (Nat.le_refl _) _)).below ((Below.refl _ _).alloc (by simp) _)
  have HR2 := hide hr2
  clear hr2
  go_enter Try.func8, Try.ntmps8
  go_wp2_with fail
  refine (l1New_any w.heap.size a cap code _ (HR2.out _ _) hn (by simp; omega)).mono ?_
  rintro e w1 ⟨rfl, c1, g1⟩
  have hz1 := g1.size
  simp only [World.size_alloc] at hz1 c1 ⊢
  have HA := hide (box_below (box_old (box_new w (.int .i64 0) (.int .i64 0) (.string ⟨#[]⟩) 25) (by simp) (.cells #[.int .i64 0, .int .i64 0, .string ⟨#[]⟩] 25)) ((Below.refl _ _).grown g1 (Nat.le_refl _) (fun k hk => by cases hk)) (by simp; omega))
  have HB := hide (box_below (box_new (w.alloc (.cells #[.int .i64 0, .int .i64 0, .string ⟨#[]⟩] 25)) (.int .i64 0) (.int .i64 0) (.string ⟨#[]⟩) 25) ((Below.refl _ _).grown g1 (Nat.le_refl _) (fun k hk => by cases hk)) (by simp))
  simp only [World.size_alloc] at HB
  have B1 : Below w.heap.size w w1 := (((Below.refl w.heap.size w).alloc (Nat.le_refl _) _).alloc (by simp) _).grown g1 (by simp; omega) (fun k hk => by cases hk)
  clear g1
  obtain ⟨Q, HQ⟩ : ∃ Q, Hid (w.heap.size + 1 + 1 = Q) := ⟨_, rfl⟩
  have hQ : w.heap.size + 2 = Q := by rw [← HQ.out]
  rw [HQ.out] at c1 hz1 ⊢
  have hQ1 : w.heap.size + 2 ≤ Q := by omega
  clear HQ hQ
  go_wp2_with fail
  refine (l1Once_any w.heap.size Q 2 _ c1 (by omega) (by omega)).mono ?_
  rintro e w2 ⟨b, rfl, c2, g2⟩
  have HA2 := hide (box_grown HA.out g2 (by omega))
  have HB2 := hide (box_grown HB.out g2 (by omega))
  have B2 : Below w.heap.size w w2 := B1.grown g2 B1.size (fun k hk => by cases hk; omega)
  clear g2 HA HB B1 c1
  cases b
  · go_wp2_with fail
    refine (l2Any_any w.heap.size Q _ c2).mono ?_
    rintro e w3 ⟨K, N, S, rfl, hS, c3, g3⟩
    have HA3 := hide (box_grown HA2.out g3 (by omega))
    have HB3 := hide (box_grown HB2.out g3 (by omega))
    have B3 : Below w.heap.size w w3 := B2.grown g3 B2.size (fun k hk => by cases hk; omega)
    clear g3 HA2 HB2 B2 c2
    go_wp2_with fail
    refine (l2Any_any w.heap.size Q _ c3).mono ?_
    rintro e w4 ⟨K', N', S', rfl, hS', c4, g4⟩
    have HA4 := hide (box_grown HA3.out g4 (by omega))
    have HB4 := hide (box_grown HB3.out g4 (by omega))
    have B4 : Below w.heap.size w w4 := B3.grown g4 B3.size (fun k hk => by cases hk; omega)
    clear g4 HA3 HB3 B3 c3
    obtain ⟨a0, a1, a2, f0, f1, f2⟩ := box_cell HA4.out
    obtain ⟨b0, b1, b2, g0, g1, g2⟩ := box_cell HB4.out
    go_wp2
    refine box_post2n HA4.out HB4.out (by omega) (fun w5 h4 h5 hbb => ?_)
    clear a0 a1 a2 f0 f1 f2 b0 b1 b2 g0 g1 g2
    obtain ⟨a0, a1, a2, -, -, -⟩ := box_cell h4
    obtain ⟨b0, b1, b2, -, -, -⟩ := box_cell h5
    refine bodyPost_ret (v := .tuple #[.agg #[.int .i64 K, .int .i64 N, .string S], .agg #[.int .i64 K', .int .i64 N', .string S']]) (by simp [results, Try.results8, go_sem, a0, a1, a2, b0, b1, b2]) rfl ⟨_, _, _, _, _, _, rfl, hS, hS', B4.trans (hbb _ (Nat.le_refl _) (by omega))⟩
  · go_wp2_with fail
    refine (l1Int_any w.heap.size Q w2.heap.size [1, 1000000000, -5, 7] 4 _ (c2.keep (World.grownBy_alloc w2 _ none) (by simp) (by simp)) (by decide) (by decide) (by have := c2.lt; omega) (cells_lit w2 3 _)).mono ?_
    rintro e w3 ⟨N, rfl, hy, c3, g3⟩
    have HA3 := hide (box_grown (box_alloc HA2.out _) g3 (by omega))
    have HB3 := hide (box_grown (box_alloc HB2.out _) g3 (by omega))
    have B3 : Below w.heap.size w w3 := (B2.alloc B2.size _).grown g3 (by have := B2.size; simp; omega) (fun k hk => by cases hk; omega)
    clear g3 HA2 HB2 B2 c2 hy
    go_wp2_with fail
    refine (l1Int_any w.heap.size Q w3.heap.size [1, -1, 1000000000, 0] 4 _ (c3.keep (World.grownBy_alloc w3 _ none) (by simp) (by simp)) (by decide) (by decide) (by have := c3.lt; omega) (cells_lit w3 3 _)).mono ?_
    rintro e w4 ⟨N', rfl, hy, c4, g4⟩
    have HA4 := hide (box_grown (box_alloc HA3.out _) g4 (by omega))
    have HB4 := hide (box_grown (box_alloc HB3.out _) g4 (by omega))
    have B4 : Below w.heap.size w w4 := (B3.alloc B3.size _).grown g4 (by have := B3.size; simp; omega) (fun k hk => by cases hk; omega)
    clear g4 HA3 HB3 B3 c3 hy
    obtain ⟨a0, a1, a2, f0, f1, f2⟩ := box_cell HA4.out
    obtain ⟨b0, b1, b2, g0, g1, g2⟩ := box_cell HB4.out
    go_wp2
    refine box_post2n HA4.out HB4.out (by omega) (fun w5 h4 h5 hbb => ?_)
    clear a0 a1 a2 f0 f1 f2 b0 b1 b2 g0 g1 g2
    obtain ⟨a0, a1, a2, -, -, -⟩ := box_cell h4
    obtain ⟨b0, b1, b2, -, -, -⟩ := box_cell h5
    refine bodyPost_ret (v := .tuple #[.agg #[.int .i64 1, .int .i64 N, .string ⟨#[]⟩], .agg #[.int .i64 1, .int .i64 N', .string ⟨#[]⟩]]) (by simp [results, Try.results8, go_sem, a0, a1, a2, b0, b1, b2]) rfl ⟨_, _, _, _, _, _, rfl, by decide, by decide, B4.trans (hbb _ (Nat.le_refl _) (by omega))⟩
end Go.Proofs.Ytofdbnkeddcdjaa
