/-
  The contracts of the draws of bytes: a new cursor; some bytes drawn into a row of the call's own.
-/
import Derived.Test.YtfgigcdfmkfkjaaDraw
import Derived.Test.YtfgigcdfmkfkjaaEnc
namespace Go.Proofs.Ytfgigcdfmkfkjaa
open Go.RowKit
set_option linter.unusedVariables false

theorem grown_more {a b c : World} {q : Option Nat} {row : Option Nat} (h : a.grownBy b q) (k : b.grownBy c row) (hr : ∀ j, row = some j → a.heap.size ≤ j) : a.grownBy c q :=
  ⟨k.os.trans h.os, k.tape.trans h.tape, k.output.trans h.output, Nat.le_trans h.size k.size,
    fun i hi hne => (k.block i (Nat.lt_of_lt_of_le hi h.size) (fun e => by have := hr i e.symm; omega)).trans (h.block i hi hne)⟩

theorem owns_base {w : World} {base base' n size : Nat} {e : TypeId} {v : Value} {xs : List Value} (h : w.ownsRow base e size v n xs) (hb : base' ≤ base) : w.ownsRow base' e size v n xs := by
  refine ⟨h.1, ?_⟩
  rcases h.2 with h2 | ⟨g, cap, cur, h1, hb', rest⟩
  · exact .inl h2
  · exact .inr ⟨g, cap, cur, h1, by omega, rest⟩

set_option maxRecDepth 100000 in
set_option maxHeartbeats 1600000 in
theorem l1New_any (B : Nat) (a : Option Addr) (cap : Nat) (code : List UInt8) (w : World) (hr : RdB B w a code) (hn : code.length ≤ 1048576) (hB : B ≤ w.heap.size) :
    Calls Try.prog 78 #[.slice a code.length cap] w fun e w' => e = .returned (.pointer (some ⟨w.heap.size, 0, none⟩)) ∧ Cur B w' w.heap.size ∧ w.grownBy w' none := by
  obtain ⟨n, hN⟩ : ∃ n, n = code.length := ⟨_, rfl⟩
  rw [← hN] at hn ⊢
  have HN := hide hN
  clear hN
  go_enter Try.func78, Try.ntmps78
  go_wp2
  go_loop [3, 4] (fun h i => ∃ (k : Nat) (x : Int), k ≤ n ∧ i = .int .i64 k ∧ h = .int .i64 x) (fun _ i => n - (intOf i).toNat)
  case atStart => exact ⟨0, _, Nat.zero_le _, rfl, rfl⟩
  case round =>
    obtain ⟨k, x, hk, rfl, rfl⟩ := hrel
    by_cases hlt : k < n ∧ k < 4000
    · obtain ⟨h1, h2⟩ := hlt
      obtain ⟨b, off, hab, hbB, hcell⟩ := hr k (by rw [← HN.out]; exact h1)
      have y1 := byteAt_lo code k
      have y2 := byteAt_hi code k
      generalize byteAt code k = y at hcell y1 y2
      subst hab
      go_wp2
      go_round
      case rel => exact ⟨k + 1, _, by omega, by go_num, rfl⟩
      case measure => simp [intOf]; omega
    · by_cases h1 : k < n
      all_goals
        go_wp2
        go_ret
        refine ⟨rfl, ⟨hB, a, cap, code, 0, x, by rw [← HN.out]; exact hn, Nat.zero_le _, hr.below ((Below.refl _ _).alloc hB _), ?_⟩, World.grownBy_alloc _ _ _⟩
        rw [heap_alloc_new, ← HN.out]; rfl

theorem cells_lit (w : World) (T : TypeId) (zs : List Int) : ∀ k, k < zs.length → (w.alloc (.cells (zs.map (Value.int .i64)).toArray T)).cell? ⟨w.heap.size, k, none⟩ = some (.int .i64 (zs.getD k 0)) := by
  intro k hk
  rw [cell_of_row _ w.heap.size k _ T (0, 0) (heap_alloc_new w _)]
  simp [List.getD, hk]

end Go.Proofs.Ytfgigcdfmkfkjaa
