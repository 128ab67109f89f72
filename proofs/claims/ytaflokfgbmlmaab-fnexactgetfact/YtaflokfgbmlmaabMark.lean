/-
  The contracts of the laws' own markers: markByteS writes rising bytes into a row of the call's own and touches no other block; heldByteS tells that they are there.
-/
import Derived.Test.YtaflokfgbmlmaabBytesW
namespace Go.Proofs.Ytaflokfgbmlmaab
open Go.RowKit
set_option linter.unusedVariables false

def marks (k n : Nat) : List UInt8 := (List.range n).map fun i => UInt8.ofNat (k + i)
theorem marks_length (k n : Nat) : (marks k n).length = n := by simp [marks]
theorem marks_succ (k n : Nat) : marks k (n + 1) = marks k n ++ [UInt8.ofNat (k + n)] := by simp [marks, List.range_succ]
theorem byteAt_marks {k n i : Nat} (h : i < n) : byteAt (marks k n) i = ((k + i : Nat) : Int) % 256 := by
  unfold byteAt marks
  simp [List.getD, h]

def partMark (xs : List Value) (k j : Nat) : List Value := vals (marks k j) ++ xs.drop j
theorem partMark_set {xs : List Value} {k j : Nat} (h : j < xs.length) : (partMark xs k j).set j (.int .u8 (((k + j : Nat) : Int) % 256)) = partMark xs k (j + 1) := by
  unfold partMark
  have hl : (vals (marks k j)).length = j := by rw [vals_length, marks_length]
  rw [List.set_append_right _ _ (by omega), hl, Nat.sub_self, List.drop_eq_getElem_cons h, List.set_cons_zero, marks_succ, vals_append]
  simp [vals]
theorem partMark_end {xs : List Value} {k j : Nat} (h : xs.length ≤ j) : partMark xs k j = vals (marks k j) := by
  unfold partMark; rw [List.drop_eq_nil_of_le h, List.append_nil]
theorem partMark_length {xs : List Value} {k j : Nat} (h : j ≤ xs.length) : (partMark xs k j).length = xs.length := by
  unfold partMark; rw [List.length_append, vals_length, marks_length, List.length_drop]; omega

theorem grown_trans {a b c : World} {row : Option Nat} (h : a.grownBy b row) (k : b.grownBy c row) : a.grownBy c row :=
  ⟨k.os.trans h.os, k.tape.trans h.tape, k.output.trans h.output, Nat.le_trans h.size k.size, fun i hi hne => (k.block i (Nat.lt_of_lt_of_le hi h.size) hne).trans (h.block i hi hne)⟩
theorem wrap_u8_nat (m : Nat) : IntKind.u8.wrap (m : Int) = (m : Int) % 256 := by simp [IntKind.wrap, IntKind.bits, IntKind.signed]

set_option maxRecDepth 100000 in
set_option maxHeartbeats 1600000 in
theorem markByteS_any (g n cap base k0 : Nat) (xs : List Value) (w : World) (hown : w.ownsRow base 5 1 (.slice (some ⟨g, 0, none⟩) n cap) n xs) (hn : n ≤ 33554500) (hk : k0 ≤ 33554500) :
    Calls Try.prog 22 #[.slice (some ⟨g, 0, none⟩) n cap, .int .i64 (k0 : Int)] w fun e w' =>
      e = .returned (.int .i64 ((k0 + n : Nat) : Int)) ∧ w'.ownsRow base 5 1 (.slice (some ⟨g, 0, none⟩) n cap) n (vals (marks k0 n)) ∧ w.grownBy w' (some g) := by
  have HX : Hid (xs.length = n) := by have := hown.1; unfold Hid; omega
  have hown0 := hide hown
  clear hown
  go_enter Try.func22, Try.ntmps22
  go_wp2
  go_loopw [1, 5] (fun kk i wr => ∃ j : Nat, j ≤ n ∧ i = .int .i64 j ∧ kk = .int .i64 ((k0 + j : Nat) : Int) ∧ wr.ownsRow base 5 1 (.slice (some ⟨g, 0, none⟩) n cap) n (partMark xs k0 j) ∧ w.grownBy wr (some g)) (fun _ i _ => n - (intOf i).toNat)
  case atStart => exact ⟨0, Nat.zero_le _, rfl, rfl, hown0.out, World.grownBy.refl _ _⟩
  case round =>
    obtain ⟨j, hj, rfl, rfl, hown, hgr⟩ := hrel
    by_cases hlt : j < n
    · obtain ⟨u, h2⟩ : ∃ u, wr.cell? ⟨g, j, none⟩ = some u := by
        rw [hown.cellAt j (by omega), List.getElem?_eq_getElem (by rw [partMark_length (by rw [HX.out]; exact hj), HX.out]; exact hlt)]
        exact ⟨_, rfl⟩
      have h3 : wr.frozen? ⟨g, j, none⟩ = false := hown.frozenAt j
      have HO := hide (hown.stored j (.int .u8 (((k0 + j : Nat) : Int) % 256)))
      rw [partMark_set (by rw [HX.out]; exact hlt)] at HO
      clear hown
      go_wp2
      go_roundw
      case rel =>
        refine ⟨j + 1, by omega, by go_num, by go_num, ?_⟩
        have HO2 := HO.out
        rw [Int.natCast_add] at HO2
        exact ⟨HO2.1, grown_trans hgr HO2.2⟩
      case measure => simp [intOf]; omega
    · have hjn : j = n := by omega
      have HZ : Hid (wr.ownsRow base 5 1 (.slice (some ⟨g, 0, none⟩) n cap) n (vals (marks k0 n))) := by
        unfold Hid
        rw [partMark_end (by rw [HX.out]; omega), hjn] at hown
        exact hown
      have HJ := hide hjn
      clear hown hjn
      go_wp2
      go_ret
      exact ⟨ret_int (by rw [HJ.out]), HZ.out, hgr⟩

end Go.Proofs.Ytaflokfgbmlmaab
