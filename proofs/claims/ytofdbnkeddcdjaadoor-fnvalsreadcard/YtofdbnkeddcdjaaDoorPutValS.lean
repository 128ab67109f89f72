/-
  What the model's writer of values makes: a row of the call's own that holds the bytes, and behind them encV of the value; nothing that was there has turned.
-/
import Derived.Test.YtofdbnkeddcdjaaDoorEncV
import Derived.Test.YtofdbnkeddcdjaaDoorPutTextS
import Derived.Test.YtofdbnkeddcdjaaDoorOwnD
import Derived.Test.YtofdbnkeddcdjaaDoorBox
import Derived.Handy
namespace Go.Proofs.YtofdbnkeddcdjaaDoor
open Go.RowKit
set_option linter.unusedVariables false

set_option maxHeartbeats 1600000 in
theorem specPutVal_some (p : Addr) (cap : Nat) (K N : Int) (S : ByteArray) (bs : List UInt8) (w : World) (hr : Rd w (some p) bs) (hn : bs.length ≤ 33554000) (hs : S.size ≤ 1048580) :
    Calls Tryd.prog 35 #[.slice (some p) bs.length cap, .agg #[.int .i64 K, .int .i64 N, .string S]] w fun e w' =>
      ∃ v, e = .returned v ∧ w'.ownsRow w.heap.size 5 1 v (bs ++ encV K N S).length (vals (bs ++ encV K N S)) ∧ Below w.heap.size w w' := by
  have hl := encN_length K
  have hp := encN_pos K
  have hr1 : Rd (w.alloc (.cells #[.int .i64 K, .int .i64 N, .string S] 25)) (some p) bs := hr.below ((Below.refl _ _).alloc (Nat.le_refl _) _)
  by_cases hK : K = 1
  · subst hK
    have HE := hide (encV_num N S)
    obtain ⟨E, HE1⟩ : ∃ E, Hid (bs ++ encN 1 = E) := ⟨_, rfl⟩
    have hE : E.length ≤ bs.length + 6 := by rw [← HE1.out]; simp; omega
    have hEp : 0 < E.length := by rw [← HE1.out]; simp; omega
    have HJ : Hid (E ++ encN N = bs ++ encV 1 N S) := by unfold Hid; rw [← HE1.out, HE.out, List.append_assoc]
    clear HE hl hp
    go_enter Tryd.func35, Tryd.ntmps35
    go_wp2_with fail
    refine (specPutNum_some p cap 1 bs _ hr1 (by omega)).mono ?_
    rintro e w1 ⟨v1, rfl, ho1, hb1⟩
    rw [HE1.out] at ho1
    have HA := hide (box_below (box_new w (.int .i64 1) (.int .i64 N) (.string S) 25) hb1 (by simp))
    have hB1 : Below w.heap.size w w1 := ((Below.refl w.heap.size w).alloc (Nat.le_refl _) _).trans (hb1.mono (by simp))
    obtain ⟨g, c, rfl, hg, o1⟩ := owns_own ho1 hEp
    clear ho1 hb1
    obtain ⟨a0, a1, a2, -, -, -⟩ := box_cell HA.out
    clear HA
    go_wp2_with fail
    refine (specPutNum_some _ _ N E _ o1.rd (by omega)).mono ?_
    rintro e w2 ⟨v2, rfl, ho2, hb2⟩
    rw [HJ.out] at ho2
    have hB2 : Below w.heap.size w w2 := hB1.trans (hb2.mono hB1.size)
    have HO := hide (ownsRow_base ho2 hB1.size)
    clear hb2 o1 a0 a1 a2 ho2
    go_wp2
    go_ret
    exact ⟨_, rfl, HO.out, hB2⟩
  · have HE := hide (encV_text N S hK)
    have hk : (K == 1) = false := by simpa using hK
    clear hK
    obtain ⟨E, HE1⟩ : ∃ E, Hid (bs ++ encN K = E) := ⟨_, rfl⟩
    have hE : E.length ≤ bs.length + 6 := by rw [← HE1.out]; simp; omega
    have hEp : 0 < E.length := by rw [← HE1.out]; simp; omega
    have HJ : Hid (E ++ encT S = bs ++ encV K N S) := by unfold Hid; rw [← HE1.out, HE.out, List.append_assoc]
    clear HE hl hp
    go_enter Tryd.func35, Tryd.ntmps35
    go_wp2_with fail
    refine (specPutNum_some p cap K bs _ hr1 (by omega)).mono ?_
    rintro e w1 ⟨v1, rfl, ho1, hb1⟩
    rw [HE1.out] at ho1
    have HA := hide (box_below (box_new w (.int .i64 K) (.int .i64 N) (.string S) 25) hb1 (by simp))
    have hB1 : Below w.heap.size w w1 := ((Below.refl w.heap.size w).alloc (Nat.le_refl _) _).trans (hb1.mono (by simp))
    obtain ⟨g, c, rfl, hg, o1⟩ := owns_own ho1 hEp
    clear ho1 hb1
    obtain ⟨a0, a1, a2, -, -, -⟩ := box_cell HA.out
    clear HA
    go_wp2_with fail
    refine (specPutText_some _ _ S E _ o1.rd (by omega) hs).mono ?_
    rintro e w2 ⟨v2, rfl, ho2, hb2⟩
    rw [HJ.out] at ho2
    have hB2 : Below w.heap.size w w2 := hB1.trans (hb2.mono hB1.size)
    have HO := hide (ownsRow_base ho2 hB1.size)
    clear hb2 o1 a0 a1 a2 ho2
    go_wp2
    go_ret
    exact ⟨_, rfl, HO.out, hB2⟩
end Go.Proofs.YtofdbnkeddcdjaaDoor
