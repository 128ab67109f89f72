/-
  What the text of an argument is; the model's.
-/
import Derived.Test.YtaflokfgbmlmaacDoorJTxV
import Derived.Test.YtaflokfgbmlmaacDoorJoined2
import Derived.Test.YtaflokfgbmlmaacDoorJoined1
namespace Go.Proofs.YtaflokfgbmlmaacDoor
open Go.RowKit
set_option linter.unusedVariables false

def argT (K : Int) (S : ByteArray) (V : V3) : ByteArray := if K = 1 then S else if K = 2 then textV V.K V.N V.S else ⟨#[95]⟩
def A5.tx (x : A5) : ByteArray := argT x.K x.S x.V
theorem var_size {s : ByteArray} (h : varB s = true) : s.size ≤ 12 := by
  unfold varB inB at h
  simp only [Bool.and_eq_true, decide_eq_true_eq] at h
  omega
theorem txA_size {x : A5} (h : x.ok = true) : x.tx.size ≤ 22 := by
  obtain ⟨K, S, V⟩ := x
  have h' : argB K S V = true := h
  show (argT K S V).size ≤ 22
  unfold argT
  unfold argB at h'
  by_cases h1 : K = 1
  · rw [if_pos h1] at h' ⊢
    have := var_size ((Bool.and_eq_true _ _).mp h').1
    omega
  · rw [if_neg h1] at h' ⊢
    by_cases h2 : K = 2
    · rw [if_pos h2] at h' ⊢
      exact tx_size (v := V) ((Bool.and_eq_true _ _).mp h').1
    · rw [if_neg h2]
      show 1 ≤ 22
      omega
set_option maxRecDepth 100000 in
set_option maxHeartbeats 1600000 in
theorem l6ArgText_any (K : Int) (S : ByteArray) (V : V3) (w : World) (hok : argB K S V = true) :
    Calls Tryd.prog 60 #[.agg #[.int .i64 K, .string S, .int .i64 V.K, .int .i64 V.N, .string V.S]] w fun e w' => e = .returned (.string (argT K S V)) ∧ Below w.heap.size w w' := by
  have b0 := below_al w (.cells #[.int .i64 K, .string S, .int .i64 V.K, .int .i64 V.N, .string V.S] 39)
  by_cases h1 : K = 1
  · subst h1
    go_enter Tryd.func60, Tryd.ntmps60
    go_wp2
    go_ret
    exact ⟨rfl, b0⟩
  · have k1 : (K == 1) = false := by simpa using h1
    by_cases h2 : K = 2
    · subst h2
      have hv : valB V.K V.N V.S = true := by rw [argB2] at hok; exact ((Bool.and_eq_true _ _).mp hok).1
      go_enter Tryd.func60, Tryd.ntmps60
      go_wp2_with fail
      refine (l2Text_any _ _ _ _ hv).mono ?_
      rintro e w1 ⟨rfl, hb⟩
      have B1 : Below w.heap.size w w1 := b0.trans (hb.mono b0.size)
      go_wp2
      go_ret
      exact ⟨rfl, B1⟩
    · have k2 : (K == 2) = false := by simpa using h2
      have HR : Hid (argT K S V = ⟨#[95]⟩) := by unfold Hid argT; rw [if_neg h1, if_neg h2]
      clear h1 h2 hok
      go_enter Tryd.func60, Tryd.ntmps60
      go_wp2
      go_ret
      exact ⟨by rw [HR.out]; rfl, b0⟩
end Go.Proofs.YtaflokfgbmlmaacDoor
