/-
  Numbers as bytes, plainly: what PutNum writes behind. No program is spoken of here.
-/
import Derived.Test.YtfgigcdfmkfkjaaNum
namespace Go.Proofs.Ytfgigcdfmkfkjaa
open Go.RowKit
set_option linter.unusedVariables false

/-- the number as it is kept: no further out than the most either way -/
def clampN (n : Int) : Int := if n < -1000000000 then -1000000000 else if 1000000000 < n then 1000000000 else n
def foldN (n : Int) : Nat := if n < 0 then (-2 * n - 1).toNat else (2 * n).toNat
/-- its groups of seven bits, the lowest first -/
def encG : Nat → Nat → List UInt8
  | 0, m => [UInt8.ofNat m]
  | f + 1, m => if m < 128 then [UInt8.ofNat m] else UInt8.ofNat (m % 128 + 128) :: encG f (m / 128)
def encN (n : Int) : List UInt8 := encG 5 (foldN (clampN n))

theorem clampN_in (n : Int) : -1000000000 ≤ clampN n ∧ clampN n ≤ 1000000000 := by unfold clampN; split; omega; split <;> omega
theorem foldN_le {n : Int} (h : -1000000000 ≤ n ∧ n ≤ 1000000000) : foldN n ≤ 2000000000 := by unfold foldN; split <;> omega
theorem foldN_neg {n : Int} (h : n < 0) : ((foldN n : Nat) : Int) = -2 * n - 1 := by unfold foldN; rw [if_pos h]; omega
theorem foldN_pos {n : Int} (h : ¬ n < 0) : ((foldN n : Nat) : Int) = 2 * n := by unfold foldN; rw [if_neg h]; omega
theorem fold_cases (n : Int) : (1000000000 < n ∧ ((foldN (clampN n) : Nat) : Int) = 2000000000) ∨ (n < -1000000000 ∧ ((foldN (clampN n) : Nat) : Int) = 1999999999) ∨
    ((-1000000000 ≤ n ∧ n < 0) ∧ ((foldN (clampN n) : Nat) : Int) = -2 * n - 1) ∨ ((0 ≤ n ∧ n ≤ 1000000000) ∧ ((foldN (clampN n) : Nat) : Int) = 2 * n) := by
  unfold clampN
  split
  · rw [foldN_neg (by omega)]; omega
  · split
    · rw [foldN_pos (by omega)]; omega
    · by_cases h : n < 0
      · rw [foldN_neg h]; omega
      · rw [foldN_pos h]; omega
theorem encG_length : ∀ f m, (encG f m).length ≤ f + 1
  | 0, m => by simp [encG]
  | f + 1, m => by
    unfold encG
    split
    · simp
    · have := encG_length f (m / 128); simp; omega
theorem encN_length (n : Int) : (encN n).length ≤ 6 := encG_length 5 _
theorem encG_small {f m : Nat} (h : m < 128) : encG f m = [UInt8.ofNat m] := by
  cases f with
  | zero => rfl
  | succ f => unfold encG; rw [if_pos h]
theorem encG_big {f m : Nat} (h : ¬ m < 128) : encG (f + 1) m = UInt8.ofNat (m % 128 + 128) :: encG f (m / 128) := by
  rw [encG, if_neg h]
theorem enc_step {f m : Nat} (hb : ¬ m < 128) (hm : m < 128 ^ f) : ∃ g, f = g + 1 ∧ m / 128 < 128 ^ g ∧ encG f m = UInt8.ofNat (m % 128 + 128) :: encG g (m / 128) := by
  cases f with
  | zero => simp at hm; omega
  | succ g =>
    refine ⟨g, rfl, ?_, encG_big hb⟩
    rw [Nat.pow_succ] at hm
    exact Nat.div_lt_of_lt_mul (by omega)
theorem or128 (m : Nat) : bits .or .i64 ((m : Int) % 128) 128 = (m : Int) % 128 + 128 := by
  have h := i64_or_nat (m % 128) 128 (by omega) (by omega)
  have h2 : m % 128 ||| 128 = m % 128 + 128 := by
    rw [Nat.or_comm, Nat.add_comm]
    exact nat_join 7 128 (m % 128) (by decide) (by omega)
  rw [h2] at h
  have e : (((m % 128 : Nat) : Int)) = (m : Int) % 128 := by omega
  rw [e] at h
  rw [show ((m % 128 + 128 : Nat) : Int) = (m : Int) % 128 + 128 by omega] at h
  exact h
theorem vals_cont (m : Nat) : [Value.int .u8 ((m : Int) % 128 + 128)] = vals [UInt8.ofNat (m % 128 + 128)] := by
  simp [vals]; omega
theorem vals_last {m : Nat} (h : m < 128) : [Value.int .u8 (m : Int)] = vals [UInt8.ofNat m] := by
  simp [vals]; omega
theorem one_cell (v : Value) (w : World) (e : TypeId) : ∀ j u, [v][j]? = some u → (w.alloc (.cells #[v] e)).cell? ((⟨w.heap.size, 0, none⟩ : Addr).add j) = some u := by
  intro j u hj
  match j, hj with
  | 0, hj => simp at hj; subst hj; simp [Addr.add]
theorem vals_one (bs : List UInt8) : ∀ u ∈ vals bs, u.oneCell' = true := by
  intro u hu
  obtain ⟨_, _, rfl⟩ := List.mem_map.1 hu
  rfl
theorem pre_length {pre r : List UInt8} {n : Int} (h : pre ++ r = encN n) : pre.length ≤ 6 := by
  have := encN_length n; rw [← h] at this; simp at this; omega
theorem encG_pos : ∀ f m, 0 < (encG f m).length
  | 0, m => by simp [encG]
  | f + 1, m => by unfold encG; split <;> simp
theorem encN_pos (n : Int) : 0 < (encN n).length := encG_pos _ _
end Go.Proofs.Ytfgigcdfmkfkjaa
