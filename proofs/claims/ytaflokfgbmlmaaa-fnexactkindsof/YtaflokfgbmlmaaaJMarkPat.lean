/-
  The contract of the laws' own mark on a pattern, and what keeps where one row is written.
-/
import Derived.Test.YtaflokfgbmlmaaaJoined1
namespace Go.Proofs.Ytaflokfgbmlmaaa
open Go.RowKit
set_option linter.unusedVariables false

set_option maxRecDepth 100000 in
set_option maxHeartbeats 1600000 in
theorem markPat_any (kd : ByteArray) (g cap : Nat) (L : List A5) (nt : Bool) (w : World) (hown : OwnArg w g cap L) (hn : L.length ≤ 1048580) :
    Calls Try.prog 26 #[.agg #[.string kd, .slice (some ⟨g, 0, none⟩) L.length cap, .bool nt], .int .i64 1] w fun e w' =>
      (∃ r : Nat, e = .returned (.int .i64 (r : Int)) ∧ r ≤ 5300000) ∧ w.grownBy w' (some g) := by
  have hg := hown.lt
  have b0 := below_al w (.cells #[.string kd, .slice (some ⟨g, 0, none⟩) L.length cap, .bool nt] 49)
  have h1 := fun W (h : OwnArg W g cap L) => markArgS_any g cap 1 L W h (by omega) (by omega)
  go_enter Try.func26, Try.ntmps26
  go_wp2_with fail
  refine (h1 _ (hown.later b0)).mono ?_
  rintro e w1 ⟨rfl, o1, g1⟩
  have G1 : w.grownBy w1 (some g) := grown_tt (grown_belowM (World.grownBy.refl w (some g)) b0) g1
  obtain ⟨r, hr⟩ : ∃ r, r = 1 + 5 * L.length := ⟨_, rfl⟩
  rw [← hr]
  have hr2 : r ≤ 5300000 := by omega
  clear o1 g1 b0 hr h1
  go_wp2
  go_ret
  exact ⟨⟨r, rfl, hr2⟩, G1⟩
theorem kept_apart {w w' : World} {base n size : Nat} {e : TypeId} {v u : Value} {xs : List Value} (h : w.ownsRow base e size v n xs) (hg : w.grownBy w' u.ownBlock) (M : Nat) (h1 : ∀ k, v.ownBlock = some k → k < M) (h2 : ∀ k, u.ownBlock = some k → M ≤ k) : w'.ownsRow base e size v n xs := by
  refine World.ownsRow.kept h hg ?_
  cases hv : v.ownBlock with
  | none => exact .inl rfl
  | some k =>
    right
    intro hh
    have := h1 k hv
    have := h2 k hh.symm
    omega
theorem kept_at {w w' : World} {base n size g : Nat} {e : TypeId} {v : Value} {xs : List Value} (h : w.ownsRow base e size v n xs) (hg : w.grownBy w' (some g)) (h1 : ∀ k, v.ownBlock = some k → k ≠ g) : w'.ownsRow base e size v n xs := by
  refine World.ownsRow.kept h hg ?_
  cases hv : v.ownBlock with
  | none => exact .inl rfl
  | some k => exact .inr (fun hh => h1 k hv (by simpa using hh))
theorem box_apart {w w' : World} {R : Nat} {o : Obj} {row : Option Nat} (h : w.heap[R]? = some o) (hg : w.grownBy w' row) (h1 : ∀ k, row = some k → k ≠ R) : w'.heap[R]? = some o := by
  rw [hg.block R (Array.getElem?_eq_some_iff.1 h).1 (fun hh => h1 R hh.symm rfl)]; exact h
theorem grown_of {w w' : World} {g : Nat} (hB : Below g w w') (h : ∀ q, q < w.heap.size → q ≠ g → w'.heap[q]? = w.heap[q]?) : w.grownBy w' (some g) :=
  ⟨hB.os, hB.tape, hB.output, hB.size, fun i hi hne => h i hi (fun e => hne (by rw [e]))⟩
end Go.Proofs.Ytaflokfgbmlmaaa
