/-
  What impl.looseVal answers: what stands between a text's first byte and its last, where the first is a quote; else the number that strconv.Atoi reads; else nothing.
-/
import Derived.Test.YtbellpalomiokacDoorJParseP
import Derived.Test.YtbellpalomiokacDoorJAtoi
import Derived.Test.YtbellpalomiokacDoorJoined1
import Derived.Lib.SmallJoins
import Derived.ProofKit
import Derived.Below
namespace Go.Proofs.YtbellpalomiokacDoor
open Go.RowKit Go.Lib
set_option linter.unusedVariables false

set_option maxHeartbeats 800000 in
theorem looseVal_quote (s : ByteArray) (w : World) (hs : s.size ≤ 1048576) (h2 : 2 ≤ s.size) (h0 : ((s[0]'(by omega)).toNat : Int) = 39) :
    Calls Tryd.prog 147 #[.string s] w fun e w' => e = .returned (.agg #[.int .i64 2, .int .i64 0, .string (s.extract 1 (s.size - 1))]) ∧ Below w.heap.size w w' := by
  have hl : (2 : Int) ≤ (s.size : Int) := by omega
  go_enter Tryd.func147, Tryd.ntmps147
  go_wp2
  obtain ⟨c0, c1, c2, -, -, -⟩ := box_cell (box_new w (.int .i64 2) (.int .i64 0) (.string (s.extract 1 (s.size - 1))) 50)
  exact bodyPost_ret (v := .agg #[.int .i64 2, .int .i64 0, .string (s.extract 1 (s.size - 1))]) (by simp only [results, Tryd.results147]; simp [go_sem, c0, c1, c2]) rfl ⟨rfl, (Below.refl w.heap.size w).alloc (Nat.le_refl _) _⟩

set_option maxHeartbeats 1600000 in
theorem looseVal_ok (s : ByteArray) (w : World) (n : Int) (hs : s.size ≤ 1048576) (h2 : s.size < 2 ∨ bat s 0 ≠ 39) (h : atoiAll s.data.toList = .ok n) :
    Calls Tryd.prog 147 #[.string s] w fun e w' => e = .returned (.agg #[.int .i64 1, .int .i64 n, .string ⟨#[]⟩]) ∧ Below w.heap.size w w' := by
  have H := hide h
  clear h
  by_cases hl : 2 ≤ s.size
  · have h0 : (((s[0]'(by omega)).toNat : Int) == 39) = false := by
      rcases h2 with h | h
      · omega
      · rw [bat_in (by omega)] at h; simpa using h
    have hl' : (2 : Int) ≤ (s.size : Int) := by omega
    clear h2
    go_enter Tryd.func147, Tryd.ntmps147
    go_wp2_with fail
    refine (atoi_yes s _ n hs H.out).mono ?_
    rintro e w1 ⟨rfl, hb⟩
    have HR := hide (box_below (box_new w (.int .i64 0) (.int .i64 0) (.string ⟨#[]⟩) 50) hb (by simp))
    have hB1 : Below w.heap.size w w1 := ((Below.refl w.heap.size w).alloc (Nat.le_refl _) _).trans (hb.mono (by simp))
    clear hb
    obtain ⟨c0, c1, c2, f0, f1, f2⟩ := box_cell HR.out
    go_wp2
    refine box_post HR.out (fun w4 h4 gr => ?_)
    clear c0 c1 c2 f0 f1 f2
    obtain ⟨c0, c1, c2, -, -, -⟩ := box_cell h4
    exact bodyPost_ret (v := .agg #[.int .i64 1, .int .i64 n, .string ⟨#[]⟩]) (by simp [results, Tryd.results147, go_sem, c0, c1, c2]) rfl ⟨rfl, below_set hB1 gr (by omega)⟩
  · have hl' : ¬ ((2 : Int) ≤ (s.size : Int)) := by omega
    clear h2
    go_enter Tryd.func147, Tryd.ntmps147
    go_wp2_with fail
    refine (atoi_yes s _ n hs H.out).mono ?_
    rintro e w1 ⟨rfl, hb⟩
    have HR := hide (box_below (box_new w (.int .i64 0) (.int .i64 0) (.string ⟨#[]⟩) 50) hb (by simp))
    have hB1 : Below w.heap.size w w1 := ((Below.refl w.heap.size w).alloc (Nat.le_refl _) _).trans (hb.mono (by simp))
    clear hb
    obtain ⟨c0, c1, c2, f0, f1, f2⟩ := box_cell HR.out
    go_wp2
    refine box_post HR.out (fun w4 h4 gr => ?_)
    clear c0 c1 c2 f0 f1 f2
    obtain ⟨c0, c1, c2, -, -, -⟩ := box_cell h4
    exact bodyPost_ret (v := .agg #[.int .i64 1, .int .i64 n, .string ⟨#[]⟩]) (by simp [results, Tryd.results147, go_sem, c0, c1, c2]) rfl ⟨rfl, below_set hB1 gr (by omega)⟩
set_option maxHeartbeats 1600000 in
theorem looseVal_no (s : ByteArray) (w : World) (hs : s.size ≤ 1048576) (h2 : s.size < 2 ∨ bat s 0 ≠ 39) (he : Errs w) (h : ∀ n, atoiAll s.data.toList ≠ .ok n) :
    Calls Tryd.prog 147 #[.string s] w fun e w' => e = .returned (.agg #[.int .i64 0, .int .i64 0, .string ⟨#[]⟩]) ∧ Below w.heap.size w w' := by
  have H := hide h
  have HE := hide he
  clear h he
  by_cases hl : 2 ≤ s.size
  · have h0 : (((s[0]'(by omega)).toNat : Int) == 39) = false := by
      rcases h2 with h | h
      · omega
      · rw [bat_in (by omega)] at h; simpa using h
    have hl' : (2 : Int) ≤ (s.size : Int) := by omega
    clear h2
    go_enter Tryd.func147, Tryd.ntmps147
    go_wp2_with fail
    refine (atoi_no s _ hs (HE.out.later ((Below.refl w.heap.size w).alloc (Nat.le_refl _) _) (Nat.le_refl _)) H.out).mono ?_
    rintro e w1 ⟨z, t, N, rfl, hb⟩
    have HR := hide (box_below (box_new w (.int .i64 0) (.int .i64 0) (.string ⟨#[]⟩) 50) hb (by simp))
    have hB1 : Below w.heap.size w w1 := ((Below.refl w.heap.size w).alloc (Nat.le_refl _) _).trans (hb.mono (by simp))
    clear hb
    obtain ⟨c0, c1, c2, f0, f1, f2⟩ := box_cell HR.out
    go_wp2
    refine box_post HR.out (fun w4 h4 gr => ?_)
    clear c0 c1 c2 f0 f1 f2
    obtain ⟨c0, c1, c2, -, -, -⟩ := box_cell h4
    exact bodyPost_ret (v := .agg #[.int .i64 0, .int .i64 0, .string ⟨#[]⟩]) (by simp [results, Tryd.results147, go_sem, c0, c1, c2]) rfl ⟨rfl, below_set hB1 gr (by omega)⟩
  · have hl' : ¬ ((2 : Int) ≤ (s.size : Int)) := by omega
    clear h2
    go_enter Tryd.func147, Tryd.ntmps147
    go_wp2_with fail
    refine (atoi_no s _ hs (HE.out.later ((Below.refl w.heap.size w).alloc (Nat.le_refl _) _) (Nat.le_refl _)) H.out).mono ?_
    rintro e w1 ⟨z, t, N, rfl, hb⟩
    have HR := hide (box_below (box_new w (.int .i64 0) (.int .i64 0) (.string ⟨#[]⟩) 50) hb (by simp))
    have hB1 : Below w.heap.size w w1 := ((Below.refl w.heap.size w).alloc (Nat.le_refl _) _).trans (hb.mono (by simp))
    clear hb
    obtain ⟨c0, c1, c2, f0, f1, f2⟩ := box_cell HR.out
    go_wp2
    refine box_post HR.out (fun w4 h4 gr => ?_)
    clear c0 c1 c2 f0 f1 f2
    obtain ⟨c0, c1, c2, -, -, -⟩ := box_cell h4
    exact bodyPost_ret (v := .agg #[.int .i64 0, .int .i64 0, .string ⟨#[]⟩]) (by simp [results, Tryd.results147, go_sem, c0, c1, c2]) rfl ⟨rfl, below_set hB1 gr (by omega)⟩
end Go.Proofs.YtbellpalomiokacDoor
