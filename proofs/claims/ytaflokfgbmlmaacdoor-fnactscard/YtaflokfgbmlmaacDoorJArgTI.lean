/-
  What the tested function answers for an argument's text: argT.
-/
import Derived.Test.YtaflokfgbmlmaacDoorJArgT
import Derived.Test.YtaflokfgbmlmaacDoorShelf
namespace Go.Proofs.YtaflokfgbmlmaacDoor
open Go.RowKit
set_option linter.unusedVariables false

set_option maxRecDepth 100000 in
set_option maxHeartbeats 1600000 in
theorem argText_any (K : Int) (S : ByteArray) (V : V3) (w : World) (hs : S.size ≤ maxLen) (hv : V.S.size ≤ maxLen) (ht : Tab w) :
    Calls Tryd.prog 57 #[.agg #[.int .i64 K, .string S, .int .i64 V.K, .int .i64 V.N, .string V.S]] w fun e w' => e = .returned (.string (argT K S V)) ∧ Below w.heap.size w w' := by
  have b0 := below_al w (.cells #[.int .i64 K, .string S, .int .i64 V.K, .int .i64 V.N, .string V.S] 39)
  have HTab := hide (ht.later b0 (Nat.le_refl _))
  clear ht
  by_cases h1 : K = 1
  · subst h1
    go_enter Tryd.func57, Tryd.ntmps57
    go_wp2
    go_ret
    exact ⟨rfl, b0⟩
  · have k1 : (K == 1) = false := by simpa using h1
    by_cases h2 : K = 2
    · subst h2
      go_enter Tryd.func57, Tryd.ntmps57
      go_wp2_with fail
      refine (implValText_any _ _ _ _ hv HTab.out).mono ?_
      rintro e w1 ⟨rfl, hb⟩
      have B1 : Below w.heap.size w w1 := b0.trans (hb.mono b0.size)
      go_wp2
      go_ret
      exact ⟨rfl, B1⟩
    · have k2 : (K == 2) = false := by simpa using h2
      have HR : Hid (argT K S V = ⟨#[95]⟩) := by unfold Hid argT; rw [if_neg h1, if_neg h2]
      clear h1 h2
      go_enter Tryd.func57, Tryd.ntmps57
      go_wp2
      go_ret
      exact ⟨by rw [HR.out]; rfl, b0⟩
end Go.Proofs.YtaflokfgbmlmaacDoor
