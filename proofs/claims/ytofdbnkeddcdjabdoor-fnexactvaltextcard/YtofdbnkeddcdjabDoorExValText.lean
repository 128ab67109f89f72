/-
  Proved: for every value, where the library's table of powers of ten is laid, the law on ValText answers true (the tested function answers as its model), and all that was there is as it was. No other condition.
-/
import Derived.Test.YtofdbnkeddcdjabDoorValT
import Derived.Test.YtofdbnkeddcdjabDoorLawVal
import Derived.Test.YtofdbnkeddcdjabDoorBox
import Derived.ProofKit
import Derived.Below
namespace Go.Proofs.YtofdbnkeddcdjabDoor.ExValText
open Go.RowKit Go.Joins
set_option linter.unusedVariables false

set_option maxRecDepth 100000 in
set_option maxHeartbeats 3200000 in
theorem walk (K N : Int) (S : ByteArray) (w : World) (hs : S.size ≤ maxLen) (ht : Tab w) :
    Calls Tryd.prog 3 #[.agg #[.int .i64 K, .int .i64 N, .string S]] w fun e w' => e = .returned (.bool true) ∧ Below w.heap.size w w' := by
  have HTab := hide ht
  clear ht
  go_enter Tryd.func3, Tryd.ntmps3
  go_wp2_with fail
  refine (szVal_any K N S 1048576 _ hs (by omega) (by omega)).mono ?_
  rintro e w1 ⟨rfl, hb1⟩
  have HA := hide (box_below (box_new w (.int .i64 K) (.int .i64 N) (.string S) 23) hb1 (by simp))
  have hB1 : Below w.heap.size w w1 := ((Below.refl w.heap.size w).alloc (Nat.le_refl _) _).trans (hb1.mono (by simp))
  have hz1 : w.heap.size + 1 ≤ w1.heap.size := by have := hb1.size; simp at this; omega
  clear hb1
  by_cases h1 : (1048576 : Int) - (S.size : Int) < 0
  · rw [if_pos h1]
    go_wp2
    go_ret
    exact ⟨rfl, hB1⟩
  · rw [if_neg h1]
    obtain ⟨a0, a1, a2, -, -, -⟩ := box_cell HA.out
    go_wp2_with fail
    refine (toVal_any K N S _).mono ?_
    rintro e w2 ⟨rfl, hb2⟩
    go_wp2_with fail
    refine (specValText_any K N S _ hs).mono ?_
    rintro e w3 ⟨rfl, hb3⟩
    have hB3 : Below w1.heap.size w1 w3 := hb2.trans (hb3.mono hb2.size)
    have HA3 := hide (box_below HA.out hB3 (by omega))
    have hB3' : Below w.heap.size w w3 := hB1.trans (hB3.mono hB1.size)
    clear a0 a1 a2 hb2 hb3 hB3 hB1 HA
    obtain ⟨a0, a1, a2, -, -, -⟩ := box_cell HA3.out
    go_wp2_with fail
    refine (toVal_any K N S _).mono ?_
    rintro e w4 ⟨rfl, hb4⟩
    have hB4 : Below w.heap.size w w4 := hB3'.trans (hb4.mono hB3'.size)
    clear a0 a1 a2 hb4 hB3' HA3
    go_wp2_with fail
    refine (implValText_any K N S _ hs (HTab.out.later hB4 (Nat.le_refl _))).mono ?_
    rintro e w5 ⟨rfl, hb5⟩
    have hB5 : Below w.heap.size w w5 := hB4.trans (hb5.mono hB4.size)
    generalize textV K N S = tx
    have e1 : (tx.toList == tx.toList) = true := by simp
    go_wp2
    go_ret
    exact ⟨rfl, hB5⟩
end Go.Proofs.YtofdbnkeddcdjabDoor.ExValText
