/-
  What impl.ParseVal answers: what the loose reading answers, where that is a value whose one text is the given one; else nothing.
-/
import Derived.Test.YtbellpalomiokacDoorJLoose
import Derived.Test.YtbellpalomiokacDoorJoined1
import Derived.Lib.SlicesS
import Derived.ProofKit
import Derived.Below
namespace Go.Proofs.YtbellpalomiokacDoor
open Go.RowKit Go.Lib
set_option linter.unusedVariables false

/-- the answer, as the call gives it -/
def ansV (b : Bool) (K N : Int) (S : ByteArray) : Value := if b then .tuple #[.agg #[.int .i64 K, .int .i64 N, .string S], .bool true] else .tuple #[.agg #[.int .i64 0, .int .i64 0, .string ⟨#[]⟩], .bool false]

set_option maxRecDepth 100000 in
set_option maxHeartbeats 1600000 in
theorem implParse_of (s : ByteArray) (K N : Int) (S : ByteArray) (w : World) (hs : S.size ≤ maxLen) (ht : Tab w)
    (hL : ∀ W, Below w.heap.size w W → Calls Tryd.prog 147 #[.string s] W fun e w' => e = .returned (.agg #[.int .i64 K, .int .i64 N, .string S]) ∧ Below W.heap.size W w') :
    Calls Tryd.prog 134 #[.string s] w fun e w' => e = .returned (ansV (valB K N S && decide (textV K N S = s)) K N S) ∧ Below w.heap.size w w' := by
  have HTab := hide ht
  have HL := hide hL
  clear ht hL
  go_enter Tryd.func134, Tryd.ntmps134
  go_wp2_with fail
  refine (HL.out _ ((Below.refl w.heap.size w).alloc (Nat.le_refl _) _)).mono ?_
  rintro e w1 ⟨rfl, hb1⟩
  have HR := hide (box_below (box_new w (.int .i64 0) (.int .i64 0) (.string ⟨#[]⟩) 50) hb1 (by simp))
  have hB1 : Below w.heap.size w w1 := ((Below.refl w.heap.size w).alloc (Nat.le_refl _) _).trans (hb1.mono (by simp))
  have hz1 : w.heap.size + 1 ≤ w1.heap.size := by have := hb1.size; simp at this; omega
  clear hb1 HL
  go_wp2_with fail
  refine (implValOk_any K N S _ hs).mono ?_
  rintro e w2 ⟨rfl, hb2⟩
  have HV := hide (box_below (box_new w1 (.int .i64 K) (.int .i64 N) (.string S) 50) hb2 (by simp))
  have HR2 := hide (box_below (box_old HR.out (by omega) (.cells #[.int .i64 K, .int .i64 N, .string S] 50)) hb2 (by simp; omega))
  have hB2 : Below w.heap.size w w2 := (hB1.alloc hB1.size _).trans (hb2.mono (by have := hB1.size; simp; omega))
  have hz2 : w1.heap.size + 1 ≤ w2.heap.size := by have := hb2.size; simp at this; omega
  clear hb2 HR hB1
  cases hv : valB K N S
  · have HB := hide hv
    clear hv
    obtain ⟨c0, c1, c2, f0, f1, f2⟩ := box_cell HR2.out
    go_wp2
    refine box_post HR2.out (fun w4 h4 gr => ?_)
    clear c0 c1 c2 f0 f1 f2
    obtain ⟨c0, c1, c2, -, -, -⟩ := box_cell h4
    exact bodyPost_ret (v := .tuple #[.agg #[.int .i64 0, .int .i64 0, .string ⟨#[]⟩], .bool false]) (by simp [results, Tryd.results134, go_sem, c0, c1, c2]) rfl ⟨by rw [HB.out]; rfl, below_set hB2 gr (by omega)⟩
  · have HB := hide hv
    clear hv
    obtain ⟨d0, d1, d2, -, -, -⟩ := box_cell HV.out
    go_wp2_with fail
    refine (implValText_any K N S _ hs (HTab.out.later hB2 (Nat.le_refl _))).mono ?_
    rintro e w3 ⟨rfl, hb3⟩
    have HV3 := hide (box_below HV.out hb3 (by omega))
    have HR3 := hide (box_below HR2.out hb3 (by omega))
    have hB3 : Below w.heap.size w w3 := hB2.trans (hb3.mono hB2.size)
    clear hb3 HV HR2 hB2 d0 d1 d2
    generalize hT : textV K N S = tx
    have HT := hide hT
    clear hT
    obtain ⟨c0, c1, c2, f0, f1, f2⟩ := box_cell HR3.out
    obtain ⟨d0, d1, d2, -, -, -⟩ := box_cell HV3.out
    by_cases hx : tx = s
    · have e1 := (bytes_beq_iff tx s).2 hx
      have HX := hide hx
      clear hx
      go_wp2
      refine box_post HR3.out (fun w4 h4 gr => ?_)
      clear c0 c1 c2 f0 f1 f2 d0 d1 d2
      obtain ⟨c0, c1, c2, -, -, -⟩ := box_cell h4
      exact bodyPost_ret (v := .tuple #[.agg #[.int .i64 K, .int .i64 N, .string S], .bool true]) (by simp [results, Tryd.results134, go_sem, c0, c1, c2]) rfl ⟨by rw [HB.out, HT.out, decide_eq_true HX.out]; rfl, below_set hB3 gr (by omega)⟩
    · have e1 := (bytes_beq_false_iff tx s).2 hx
      have HX := hide hx
      clear hx
      go_wp2
      refine box_post HR3.out (fun w4 h4 gr => ?_)
      clear c0 c1 c2 f0 f1 f2 d0 d1 d2
      obtain ⟨c0, c1, c2, -, -, -⟩ := box_cell h4
      exact bodyPost_ret (v := .tuple #[.agg #[.int .i64 0, .int .i64 0, .string ⟨#[]⟩], .bool false]) (by simp [results, Tryd.results134, go_sem, c0, c1, c2]) rfl ⟨by rw [HB.out, HT.out, decide_eq_false HX.out]; rfl, below_set hB3 gr (by omega)⟩
end Go.Proofs.YtbellpalomiokacDoor
