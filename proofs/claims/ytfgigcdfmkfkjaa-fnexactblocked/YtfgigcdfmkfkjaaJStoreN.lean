/-
  The laws' helpers on stores, said of a list's length by its own letter; a value's text in a list's size.
-/
import Derived.Test.YtfgigcdfmkfkjaaJoined3
import Derived.Test.YtfgigcdfmkfkjaaJoined4
namespace Go.Proofs.Ytfgigcdfmkfkjaa
open Go.RowKit
set_option linter.unusedVariables false

theorem szStore_n (a : Option Addr) (n cap : Nat) (J : List It) (nx : Int) (left : Int) (w : World) (hJ : J.length = n) (hr : RdI w a J) (hs : ∀ i, i < J.length → okI (iAt J i)) (hm : n ≤ maxLen) (h0 : 0 ≤ left) (h1 : left ≤ 1048576) :
    Calls Try.prog 17 #[.agg #[.slice a n cap, .int .i64 nx], .int .i64 left] w fun e w' =>
      (∃ r, e = .returned (.int .i64 r) ∧ (r = -1 ∨ (0 ≤ r ∧ r + (szSt J : Int) = left))) ∧ Below w.heap.size w w' := by
  subst hJ; exact szStore_any a cap J nx left w hr hs hm h0 h1
theorem toStore_n (a : Option Addr) (n cap : Nat) (J : List It) (nx : Int) (w : World) (hJ : J.length = n) (hr : RdI w a J) (hn : n ≤ 1048576) (hl : ∀ i, i < J.length → (iAt J i).L.length ≤ 1048576) :
    Calls Try.prog 20 #[.agg #[.slice a n cap, .int .i64 nx]] w fun e w' =>
      ∃ K g, e = .returned (.agg #[.slice (some ⟨g, 0, none⟩) n n, .int .i64 nx]) ∧ HoldsI w' w.heap.size g n K ∧ K.map It.pl = J.map It.pl ∧ Below w.heap.size w w' := by
  subst hJ; exact toStore_any a cap J nx w hr hn hl
theorem toIntS_ex (a : Option Addr) (n cap : Nat) (zs : List Int) (w : World) (hr : RdN w a zs) (hz : zs.length = n) (hn : n ≤ 1048576) :
    Calls Try.prog 21 #[.slice a n cap] w fun e w' =>
      ∃ g, e = .returned (.slice (some ⟨g, 0, none⟩) n n) ∧ w'.ownsRow w.heap.size 3 1 (.slice (some ⟨g, 0, none⟩) n n) n (valsN zs) ∧ Below w.heap.size w w' :=
  (toIntS_at a n cap zs w hr hz hn).mono fun e w' h => ⟨w.heap.size, h⟩
theorem mem_szL : ∀ {L : List V3} {v : V3}, v ∈ L → v.S.size ≤ szL L
  | [], _, h => by cases h
  | u :: r, v, h => by
    unfold szL
    simp only [List.length_cons, List.map_cons, List.sum_cons]
    rcases List.mem_cons.1 h with rfl | h
    · omega
    · have := mem_szL h
      unfold szL at this
      omega
end Go.Proofs.Ytfgigcdfmkfkjaa
