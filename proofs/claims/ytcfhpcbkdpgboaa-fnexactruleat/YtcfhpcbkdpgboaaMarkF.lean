/-
  The contracts of the laws' own markers on facts: markFact writes numbers and texts into a row of values of the calls' own and touches no other block that was there.
-/
import Derived.Test.YtcfhpcbkdpgboaaBox2
import Derived.Test.YtcfhpcbkdpgboaaLawFact
import Derived.Test.YtcfhpcbkdpgboaaKeep6
import Derived.Laws.IdiomStrings
namespace Go.Proofs.Ytcfhpcbkdpgboaa
open Go.RowKit
set_option linter.unusedVariables false

/-- the bytes of a mark's digits -/
def markL (fuel n : Nat) (r : List UInt8) : List UInt8 := match fuel with
  | 0 => r
  | f + 1 => if n = 0 then r else markL f (n / 10) (UInt8.ofNat (48 + n % 10) :: r)
def markT (k : Nat) : ByteArray := if k = 0 then ⟨#[109, 48]⟩ else ⟨#[109]⟩ ++ ⟨(markL 20 k []).toArray⟩
theorem markL_stop (n : Nat) (r : List UInt8) : ∀ f, n = 0 → markL f n r = r
  | 0, _ => rfl
  | f + 1, h => by unfold markL; rw [if_pos h]
theorem markL_step {f n : Nat} {r : List UInt8} (h : n ≠ 0) : markL (f + 1) n r = markL f (n / 10) (UInt8.ofNat (48 + n % 10) :: r) := by
  show (if n = 0 then _ else _) = _; rw [if_neg h]

theorem conv_1 (q : Nat) (c : UInt8) (d : Int) (hd : d = (c.toNat : Int)) (W : World) (h : W.cell? ⟨q, 0, none⟩ = some (.int .u8 d)) :
    (convert 34 9 (.slice (some ⟨q, 0, none⟩) 1 1)).run Try.prog W = .ok (.string ⟨#[c]⟩) W := by
  subst hd
  have := run_convert_bytes_back (P := Try.prog) W 34 9 5 ⟨q, 0, none⟩ 1 [c] Try.underlying34 Try.underlying5 Try.underlying9 (fun j hj => by
    obtain rfl : j = 0 := by simpa using hj
    rw [Addr.add_lit, Nat.add_zero, h]
    simp)
  simpa using this
theorem cell_1 (w : World) (c : Value) (T : TypeId) : (w.alloc (.cells #[c] T)).cell? ⟨w.heap.size, 0, none⟩ = some c := by
  rw [cell_of_row _ w.heap.size 0 _ T (0, 0) (heap_alloc_new w _)]; rfl
theorem app_1 (c : UInt8) (s : ByteArray) : ((⟨#[c]⟩ : ByteArray) ++ s).data.toList = c :: s.data.toList ∧ ((⟨#[c]⟩ : ByteArray) ++ s).size = s.size + 1 := by
  constructor
  · simp
  · rw [ByteArray.size_append]; show 1 + s.size = _; omega

/-- the row's k-th value is marked -/
def markV (k : Nat) : V3 := ⟨(k : Int), ((k + 1 : Nat) : Int), markT (k + 2)⟩
def marksV (k n : Nat) : List V3 := (List.range n).map fun i => markV (k + 3 * i)
theorem marksV_length (k n : Nat) : (marksV k n).length = n := by simp [marksV]
theorem marksV_succ (k n : Nat) : marksV k (n + 1) = marksV k n ++ [markV (k + 3 * n)] := by simp [marksV, List.range_succ]
def partM (L : List V3) (k j : Nat) : List V3 := marksV k j ++ L.drop j
theorem partM_end {L : List V3} {k j : Nat} (h : L.length ≤ j) : partM L k j = marksV k j := by unfold partM; rw [List.drop_eq_nil_of_le h, List.append_nil]
theorem partM_length {L : List V3} {k j : Nat} (h : j ≤ L.length) : (partM L k j).length = L.length := by unfold partM; rw [List.length_append, marksV_length, List.length_drop]; omega
theorem partM_set {L : List V3} {k j : Nat} (h : j < L.length) :
    (((cells3 (partM L k j)).set (j * 3) (.int .i64 (markV (k + 3 * j)).K)).set (j * 3 + 1) (.int .i64 (markV (k + 3 * j)).N)).set (j * 3 + 2) (.string (markV (k + 3 * j)).S) = cells3 (partM L k (j + 1)) := by
  have h1 : partM L k j = marksV k j ++ L[j] :: L.drop (j + 1) := by unfold partM; rw [List.drop_eq_getElem_cons h]
  have h2 : partM L k (j + 1) = marksV k j ++ markV (k + 3 * j) :: L.drop (j + 1) := by unfold partM; rw [marksV_succ, List.append_assoc]; rfl
  have := cells3_set (marksV k j) (L.drop (j + 1)) (markV (k + 3 * j)) L[j]
  rw [marksV_length] at this
  rw [h1, h2]; exact this

end Go.Proofs.Ytcfhpcbkdpgboaa
