/-
  What is bound to a name, plainly.
-/
import Derived.Test.YtaflokfgbmlmaabBindRow
import Derived.Test.YtaflokfgbmlmaabVEq
namespace Go.Proofs.Ytaflokfgbmlmaab
open Go.RowKit
set_option linter.unusedVariables false

/-- the value of the first of this name -/
def bindO : List B4 → ByteArray → Option V3
  | [], _ => none
  | x :: r, s => if x.N = s then some x.V else bindO r s
theorem bindO_at : ∀ {L : List B4} {s : ByteArray} {k : Nat}, k < L.length → (∀ j, j < k → (eAt L j).N ≠ s) → (eAt L k).N = s → bindO L s = some (eAt L k).V
  | [], _, k, h, _, _ => absurd h (Nat.not_lt_zero _)
  | x :: r, s, 0, _, _, h => by
    have h' : x.N = s := h
    unfold bindO; rw [if_pos h']; rfl
  | x :: r, s, k + 1, hk, hj, h => by
    have h0 : x.N ≠ s := hj 0 (by omega)
    unfold bindO
    rw [if_neg h0]
    exact bindO_at (by simpa using hk) (fun j hjk => hj (j + 1) (by omega)) h
theorem bindO_none : ∀ {L : List B4} {s : ByteArray}, (∀ j, j < L.length → (eAt L j).N ≠ s) → bindO L s = none
  | [], _, _ => rfl
  | x :: r, s, h => by
    have h0 : x.N ≠ s := h 0 (by simp)
    unfold bindO
    rw [if_neg h0]
    exact bindO_none (fun j hj => h (j + 1) (by simpa using hj))
/-- what BindOf answers -/
def bindA (o : Option V3) : Value := match o with
  | some v => .tuple #[.agg #[.int .i64 v.K, .int .i64 v.N, .string v.S], .bool true]
  | none => .tuple #[.agg #[.int .i64 0, .int .i64 0, .string ⟨#[]⟩], .bool false]
theorem bindO_mem : ∀ {L : List B4} {s : ByteArray} {v : V3}, bindO L s = some v → ∃ x ∈ L, x.N = s ∧ x.V = v
  | [], _, _, h => by cases h
  | x :: r, s, v, h => by
    unfold bindO at h
    by_cases hx : x.N = s
    · rw [if_pos hx] at h
      exact ⟨x, List.mem_cons_self, hx, by simpa using h⟩
    · rw [if_neg hx] at h
      obtain ⟨y, hy, e⟩ := bindO_mem h
      exact ⟨y, List.mem_cons_of_mem _ hy, e⟩
theorem bindA_form (o : Option V3) : ∃ (K N : Int) (S : ByteArray) (b : Bool), bindA o = .tuple #[.agg #[.int .i64 K, .int .i64 N, .string S], .bool b] := by
  cases o with
  | none => exact ⟨_, _, _, _, rfl⟩
  | some v => exact ⟨_, _, _, _, rfl⟩
end Go.Proofs.Ytaflokfgbmlmaab
