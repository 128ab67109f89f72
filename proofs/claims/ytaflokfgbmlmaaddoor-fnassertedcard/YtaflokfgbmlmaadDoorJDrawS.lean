/-
  The contract of the draw of a small value: some value with a short text.
-/
import Derived.Test.YtaflokfgbmlmaadDoorJDrawV
import Derived.Test.YtaflokfgbmlmaadDoorJV3
namespace Go.Proofs.YtaflokfgbmlmaadDoor
open Go.RowKit
set_option linter.unusedVariables false

set_option maxRecDepth 100000 in
set_option maxHeartbeats 1600000 in
theorem l3Small_any (B q : Nat) (w : World) (hc : Cur B w q) :
    Calls Tryd.prog 91 #[.pointer (some ⟨q, 0, none⟩)] w fun e w' => ∃ (v : V3), e = .returned (.agg #[.int .i64 v.K, .int .i64 v.N, .string v.S]) ∧ v.S.size ≤ 21 ∧ Cur B w' q ∧ w.grownBy w' (some q) := by
  have hq := hc.lt
  have hB := hc.1
  go_enter Tryd.func91, Tryd.ntmps91
  go_wp2_with fail
  refine (l1Once_any B q 2 _ (hc.keep (World.grownBy_alloc w _ none) (by simp) (by simp)) (by omega) (by omega)).mono ?_
  rintro e w1 ⟨b, rfl, c1, g1⟩
  have HR := hide (box_grown (box_new w (.int .i64 0) (.int .i64 0) (.string ⟨#[]⟩) 85) g1 (by omega))
  have G1 : w.grownBy w1 (some q) := grown_trans (grown_alloc w _ q) g1
  have z1 := G1.size
  have l1 := (Array.getElem?_eq_some_iff.1 HR.out).1
  clear g1
  cases b
  · go_wp2_with fail
    refine (l1Str_any B q w1.heap.size [⟨#[97]⟩, ⟨#[98]⟩] 2 _ (c1.keep (World.grownBy_alloc w1 _ none) (by simp) (by simp)) (by decide) (by decide) (by omega) (cells_strs w1 9 _)).mono ?_
    rintro e w2 ⟨s, rfl, hx, c2, g2⟩
    have HS : Hid (s.size ≤ 21) := by
      unfold Hid
      simp only [List.mem_cons, List.not_mem_nil, or_false] at hx
      rcases hx with rfl | rfl <;> decide
    have HR2 := hide (box_grown (box_alloc HR.out _) g2 (by omega))
    have G2 : w.grownBy w2 (some q) := grown_trans (grown_trans G1 (grown_alloc w1 _ q)) g2
    obtain ⟨a0, a1, a2, f0, f1, f2⟩ := box_cell HR2.out
    clear hx g2 HR c1
    go_wp2
    refine box_post HR2.out (fun w3 h3 gr => ?_)
    clear a0 a1 a2 f0 f1 f2
    obtain ⟨a0, a1, a2, -, -, -⟩ := box_cell h3
    refine bodyPost_ret (v := .agg #[.int .i64 2, .int .i64 0, .string s]) (by simp [results, Tryd.results91, go_sem, a0, a1, a2]) rfl ⟨⟨2, 0, s⟩, rfl, HS.out, c2.keep gr (by simp; omega) (by intro k hk; cases hk; omega), grown_more G2 gr (by intro k hk; cases hk; omega)⟩
  · go_wp2_with fail
    refine (l1Below_any B q 3 _ c1 (by omega) (by omega)).mono ?_
    rintro e w2 ⟨x, rfl, x0, x1, c2, g2⟩
    have HR2 := hide (box_grown HR.out g2 (by omega))
    have G2 : w.grownBy w2 (some q) := grown_trans G1 g2
    obtain ⟨a0, a1, a2, f0, f1, f2⟩ := box_cell HR2.out
    clear g2 HR c1
    go_wp2
    refine box_post HR2.out (fun w3 h3 gr => ?_)
    clear a0 a1 a2 f0 f1 f2
    obtain ⟨a0, a1, a2, -, -, -⟩ := box_cell h3
    refine bodyPost_ret (v := .agg #[.int .i64 1, .int .i64 (1 + x), .string ⟨#[]⟩]) (by simp [results, Tryd.results91, go_sem, a0, a1, a2]) rfl ⟨⟨1, 1 + x, ⟨#[]⟩⟩, rfl, (show (⟨#[]⟩ : ByteArray).size ≤ 21 by decide), c2.keep gr (by simp; omega) (by intro k hk; cases hk; omega), grown_more G2 gr (by intro k hk; cases hk; omega)⟩
end Go.Proofs.YtaflokfgbmlmaadDoor
