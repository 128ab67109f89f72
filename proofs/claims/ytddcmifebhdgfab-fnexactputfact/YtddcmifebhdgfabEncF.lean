/-
  Facts as bytes, plainly: what PutFact writes behind.
-/
import Derived.Test.YtddcmifebhdgfabEncV
import Derived.Test.YtddcmifebhdgfabLawFact
namespace Go.Proofs.Ytddcmifebhdgfab
open Go.RowKit
set_option linter.unusedVariables false

def encVs (L : List V3) : List UInt8 := L.flatMap fun v => encV v.K v.N v.S
def encF (kd : ByteArray) (L : List V3) : List UInt8 := encT kd ++ (encN L.length ++ encVs L)
theorem encVs_app (L M : List V3) : encVs (L ++ M) = encVs L ++ encVs M := by simp [encVs]
theorem encVs_step {L : List V3} {k : Nat} (h : k < L.length) : encVs (L.take (k + 1)) = encVs (L.take k) ++ encV (vAt L k).K (vAt L k).N (vAt L k).S := by
  rw [List.take_succ_eq_append_getElem h, vAt_in h, encVs_app]; simp [encVs]
theorem encVs_len : ∀ L : List V3, (encVs L).length ≤ 12 * L.length + (L.map fun v => v.S.size).sum
  | [] => by simp [encVs]
  | v :: r => by
    have ih := encVs_len r
    have h := encV_length v.K v.N v.S
    simp only [encVs, List.flatMap_cons, List.length_append, List.length_cons, List.map_cons, List.sum_cons] at ih ⊢
    omega
theorem take_sum : ∀ (L : List V3) (k : Nat), ((L.take k).map fun v => v.S.size).sum ≤ (L.map fun v => v.S.size).sum
  | [], k => by simp
  | v :: r, 0 => by simp
  | v :: r, k + 1 => by
    have := take_sum r k
    simp only [List.take_succ_cons, List.map_cons, List.sum_cons]; omega
theorem encVs_take (L : List V3) (k : Nat) : (encVs (L.take k)).length ≤ 12 * szL L := by
  have h := encVs_len (L.take k)
  have h2 := take_sum L k
  rw [List.length_take] at h
  unfold szL
  omega
theorem encF_len (kd : ByteArray) (L : List V3) : (encF kd L).length ≤ 12 + kd.size + 12 * szL L := by
  have h1 := encT_length kd
  have h2 := encN_length L.length
  have h3 := encVs_take L L.length
  rw [List.take_length] at h3
  simp only [encF, List.length_append]; omega
theorem encF_pos (kd : ByteArray) (L : List V3) : 0 < (encF kd L).length := by
  have := encN_pos L.length
  simp only [encF, List.length_append]; omega
end Go.Proofs.Ytddcmifebhdgfab
