/-
  What the model's differences of values answer: sumV; nothing that was there has turned.
-/
import Derived.Test.YtbellpalomiokabJSumS
namespace Go.Proofs.Ytbellpalomiokab
open Go.RowKit
set_option linter.unusedVariables false

set_option maxHeartbeats 1600000 in
theorem specSubVals_any (K N : Int) (S : ByteArray) (K' N' : Int) (S' : ByteArray) (w : World) (hs : S.size ≤ maxLen) (hs' : S'.size ≤ maxLen) :
    Calls Try.prog 56 #[.agg #[.int .i64 K, .int .i64 N, .string S], .agg #[.int .i64 K', .int .i64 N', .string S']] w fun e w' =>
      e = .returned (sumV K N S K' N' S' (numN K N S - numN K' N' S')) ∧ Below w.heap.size w w' := by
  obtain ⟨n1, n2⟩ := numN_in K N S
  obtain ⟨n3, n4⟩ := numN_in K' N' S'
  have HE : Hid (sumV K N S K' N' S' (wrap64 (N - N')) = sumV K N S K' N' S' (numN K N S - numN K' N' S')) :=
    sumV_eq (fun h1 h2 => by rw [numN_of h1] at n1 n2 ⊢; rw [numN_of h2] at n3 n4 ⊢; exact wrap_in (by omega) (by omega))
  clear n1 n2 n3 n4
  go_enter Try.func56, Try.ntmps56
  go_wp2_with fail
  refine (l2Sum_any K N S K' N' S' _ _ hs hs').mono ?_
  rintro e w1 ⟨rfl, hb1⟩
  have HR := hide (box_below (box_new ((w.alloc (.cells #[.int .i64 K, .int .i64 N, .string S] 45)).alloc (.cells #[.int .i64 K', .int .i64 N', .string S'] 45)) (.int .i64 0) (.int .i64 0) (.string ⟨#[]⟩) 45) hb1 (by simp))
  have hB1 : Below w.heap.size w w1 := ((((Below.refl w.heap.size w).alloc (Nat.le_refl _) _).alloc (by simp) _).alloc (by simp; omega) _).trans (hb1.mono (by simp; omega))
  simp only [World.size_alloc] at HR
  clear hb1
  obtain ⟨c0, c1, c2, f0, f1, f2⟩ := box_cell HR.out
  generalize hT : sumV K N S K' N' S' _ = tv
  obtain ⟨r1, r2, rb, rfl⟩ : ∃ r1 r2 b', tv = .tuple #[.agg #[.int .i64 r1, .int .i64 r2, .string ⟨#[]⟩], .bool b'] := by rw [← hT]; exact tupV_open _ _
  have HT := hide hT
  clear hT
  go_wp2
  refine box_post HR.out (fun w4 h4 gr => ?_)
  clear c0 c1 c2 f0 f1 f2
  obtain ⟨c0, c1, c2, -, -, -⟩ := box_cell h4
  refine bodyPost_ret (v := .tuple #[.agg #[.int .i64 r1, .int .i64 r2, .string ⟨#[]⟩], .bool rb]) (by simp [results, Try.results56, go_sem, c0, c1, c2]) rfl ⟨by rw [← HE.out]; exact congrArg _ HT.out.symm, below_set hB1 gr (by omega)⟩

end Go.Proofs.Ytbellpalomiokab
