/-
  The contracts of the draws of values: some value, whatever it is, with a text of at most 21 bytes.
-/
import Derived.Test.YtfgigcdfmkfkjaaDrawB
import Derived.Test.YtfgigcdfmkfkjaaBox
import Derived.Handy
namespace Go.Proofs.Ytfgigcdfmkfkjaa
open Go.RowKit
set_option linter.unusedVariables false

theorem box_grown {w w' : World} {R q : Nat} {o : Obj} (h : w.heap[R]? = some o) (hg : w.grownBy w' (some q)) (hne : R ≠ q) : w'.heap[R]? = some o := by
  rw [hg.block R (Array.getElem?_eq_some_iff.1 h).1 (by simp; omega)]; exact h
theorem box_alloc {w : World} {R : Nat} {o : Obj} (h : w.heap[R]? = some o) (x : Obj) : (w.alloc x).heap[R]? = some o := box_old h (Array.getElem?_eq_some_iff.1 h).1 x
theorem grown_alloc (w : World) (o : Obj) (q : Nat) : w.grownBy (w.alloc o) (some q) := World.grownBy_alloc w o _

set_option maxHeartbeats 400000 in
theorem l1Once_any (B q : Nat) (n : Int) (w : World) (hc : Cur B w q) (hn : 0 < n) (hn2 : n ≤ 1000000) :
    Calls Try.prog 116 #[.pointer (some ⟨q, 0, none⟩), .int .i64 n] w fun e w' => ∃ b : Bool, e = .returned (.bool b) ∧ Cur B w' q ∧ w.grownBy w' (some q) := by
  go_enter Try.func116, Try.ntmps116
  go_wp2_with fail
  refine (l1Below_any B q n w hc hn hn2).mono ?_
  rintro e w1 ⟨x, rfl, x0, x1, c1, g1⟩
  go_wp2
  go_ret
  exact ⟨_, rfl, c1, g1⟩

set_option maxHeartbeats 1600000 in
theorem l1Str_any (B q l : Nat) (zs : List ByteArray) (cap : Nat) (w : World) (hc : Cur B w q) (hn : 0 < zs.length) (hn2 : zs.length ≤ 1000) (hq : l ≠ q)
    (hz : ∀ k, k < zs.length → w.cell? ⟨l, k, none⟩ = some (.string (zs.getD k ⟨#[]⟩))) :
    Calls Try.prog 118 #[.pointer (some ⟨q, 0, none⟩), .slice (some ⟨l, 0, none⟩) zs.length cap] w fun e w' => ∃ x : ByteArray, e = .returned (.string x) ∧ x ∈ zs ∧ Cur B w' q ∧ w.grownBy w' (some q) := by
  obtain ⟨n, hN⟩ : ∃ n, n = zs.length := ⟨_, rfl⟩
  rw [← hN] at hn hn2 hz ⊢
  have HZ := hide hz
  have HN := hide hN
  clear hz hN
  go_enter Try.func118, Try.ntmps118
  go_wp2_with fail
  refine (l1Below_any B q n w hc (by omega) (by omega)).mono ?_
  rintro e w1 ⟨x, rfl, x0, x1, c1, g1⟩
  obtain ⟨k, rfl⟩ := Int.eq_ofNat_of_zero_le x0
  have hk : k < n := by omega
  have h1 : w1.cell? ⟨l, k, none⟩ = some (.string (zs.getD k ⟨#[]⟩)) := g1.cell (HZ.out k hk) (by simp; exact hq)
  have HM : Hid (zs.getD k ⟨#[]⟩ ∈ zs) := by
    have hk2 : k < zs.length := by rw [← HN.out]; exact hk
    unfold Hid
    simp [List.getD, hk2]
  generalize zs.getD k ⟨#[]⟩ = z at h1 HM
  go_wp2
  go_ret
  exact ⟨_, rfl, HM.out, c1, g1⟩

theorem cells_strs (w : World) (T : TypeId) (zs : List ByteArray) : ∀ k, k < zs.length → (w.alloc (.cells (zs.map Value.string).toArray T)).cell? ⟨w.heap.size, k, none⟩ = some (.string (zs.getD k ⟨#[]⟩)) := by
  intro k hk
  rw [cell_of_row _ w.heap.size k _ T (0, 0) (heap_alloc_new w _)]
  simp [List.getD, hk]

end Go.Proofs.Ytfgigcdfmkfkjaa
