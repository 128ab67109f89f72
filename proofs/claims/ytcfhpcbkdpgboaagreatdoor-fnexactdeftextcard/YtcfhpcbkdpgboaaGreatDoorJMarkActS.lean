/-
  The laws' own marks on rows of Acts: they write into that row and its elements' lists alone.
-/
import Derived.Test.YtcfhpcbkdpgboaaGreatDoorJMarkExpr
import Derived.Test.YtcfhpcbkdpgboaaGreatDoorJoined1
namespace Go.Proofs.YtcfhpcbkdpgboaaGreatDoor
open Go.RowKit
set_option linter.unusedVariables false

def QE.wt (x : QE) : Nat := 4 + 11 * x.L.length
theorem QE.wt_sz (x : QE) : x.wt ≤ 11 * (x.sz + 1) := by unfold QE.wt QE.sz; omega
/-- the row, but for what of the j-th element is no list -/
def HoldQE (W : World) (g cp n : Nat) (K : List QE) (j : Nat) : Prop := ∃ KC, KC.length = n ∧ W.ownsRow 0 69 5 (.slice (some ⟨g, 0, none⟩) n cp) n (rowOf QE.cs KC) ∧ (eAt KC j).a = (eAt K j).a ∧ (eAt KC j).cap = (eAt K j).cap ∧ (eAt KC j).L = (eAt K j).L ∧ ∀ i, j + 1 ≤ i → i < n → eAt KC i = eAt K i
section
variable {W W' : World} {g cp n j : Nat} {K : List QE}
theorem HoldQE.cell (h : HoldQE W g cp n K j) (o : Nat) (ho : o < 5) (hj : j < n) : ∃ u, W.cell? ⟨g, j * 5 + o, none⟩ = some u := by
  obtain ⟨KC, hl, hw, -⟩ := h
  rw [hw.cellAt (j * 5 + o) (by omega), List.getElem?_eq_getElem (by rw [rowOf_length QE.len, hl]; omega)]
  exact ⟨_, rfl⟩
theorem HoldQE.frozen (h : HoldQE W g cp n K j) (p : Nat) : W.frozen? ⟨g, p, none⟩ = false := by obtain ⟨KC, hl, hw, -⟩ := h; exact hw.frozenAt p
theorem HoldQE.list (h : HoldQE W g cp n K j) (hj : j < n) : W.cell? ⟨g, j * 5 + 2, none⟩ = some (.slice (eAt K j).a (eAt K j).L.length (eAt K j).cap) := by
  obtain ⟨KC, hl, hw, e1, e2, e3, -⟩ := h
  have hg := rowOf_get QE.len KC j 2 (by rw [hl]; exact hj) (by omega)
  rw [hw.cellAt (j * 5 + 2) (by omega), hg, ← eAt_in (by rw [hl]; exact hj), ← e1, ← e2, ← e3]
  rfl
theorem HoldQE.later (h : HoldQE W g cp n K j) (hb : Below W.heap.size W W') : HoldQE W' g cp n K j := by obtain ⟨KC, hl, hw, r⟩ := h; exact ⟨KC, hl, ownsRow_below' hw hb, r⟩
theorem HoldQE.other (h : HoldQE W g cp n K j) {q : Nat} (hg : W.grownBy W' (some q)) (hq : g ≠ q) : HoldQE W' g cp n K j := by obtain ⟨KC, hl, hw, r⟩ := h; exact ⟨KC, hl, World.ownsRow.kept hw hg (.inr (by simp [Value.ownBlock]; exact hq)), r⟩
theorem HoldQE.lt (h : HoldQE W g cp n K j) : g < W.heap.size := by obtain ⟨KC, hl, hw, r⟩ := h; exact (hw.lt g rfl).2
theorem HoldQE.set_K (h : HoldQE W g cp n K j) (hj : j < n) (v : Int) : HoldQE (W.setCell ⟨g, j * 5, none⟩ (.int .i64 v)) g cp n K j ∧ W.grownBy (W.setCell ⟨g, j * 5, none⟩ (.int .i64 v)) (some g) := by
  obtain ⟨KC, hl, hw, e1, e2, e3, r⟩ := h
  have s := hw.stored (j * 5) (.int .i64 v)
  rw [rowOf_set_QE_K v KC j (by rw [hl]; exact hj)] at s
  refine ⟨⟨_, by rw [List.length_set, hl], s.1, ?_, ?_, ?_, fun i h1 h2 => ?_⟩, s.2⟩
  · rw [eAt_set (by rw [hl]; exact hj), if_pos rfl]; exact e1
  · rw [eAt_set (by rw [hl]; exact hj), if_pos rfl]; exact e2
  · rw [eAt_set (by rw [hl]; exact hj), if_pos rfl]; exact e3
  · rw [eAt_set (by rw [hl]; exact hj), if_neg (by omega)]; exact r i h1 h2
theorem HoldQE.set_nm (h : HoldQE W g cp n K j) (hj : j < n) (v : ByteArray) : HoldQE (W.setCell ⟨g, j * 5 + 1, none⟩ (.string v)) g cp n K j ∧ W.grownBy (W.setCell ⟨g, j * 5 + 1, none⟩ (.string v)) (some g) := by
  obtain ⟨KC, hl, hw, e1, e2, e3, r⟩ := h
  have s := hw.stored (j * 5 + 1) (.string v)
  rw [rowOf_set_QE_nm v KC j (by rw [hl]; exact hj)] at s
  refine ⟨⟨_, by rw [List.length_set, hl], s.1, ?_, ?_, ?_, fun i h1 h2 => ?_⟩, s.2⟩
  · rw [eAt_set (by rw [hl]; exact hj), if_pos rfl]; exact e1
  · rw [eAt_set (by rw [hl]; exact hj), if_pos rfl]; exact e2
  · rw [eAt_set (by rw [hl]; exact hj), if_pos rfl]; exact e3
  · rw [eAt_set (by rw [hl]; exact hj), if_neg (by omega)]; exact r i h1 h2
theorem HoldQE.set_N (h : HoldQE W g cp n K j) (hj : j < n) (v : Int) : HoldQE (W.setCell ⟨g, j * 5 + 3, none⟩ (.int .i64 v)) g cp n K j ∧ W.grownBy (W.setCell ⟨g, j * 5 + 3, none⟩ (.int .i64 v)) (some g) := by
  obtain ⟨KC, hl, hw, e1, e2, e3, r⟩ := h
  have s := hw.stored (j * 5 + 3) (.int .i64 v)
  rw [rowOf_set_QE_N v KC j (by rw [hl]; exact hj)] at s
  refine ⟨⟨_, by rw [List.length_set, hl], s.1, ?_, ?_, ?_, fun i h1 h2 => ?_⟩, s.2⟩
  · rw [eAt_set (by rw [hl]; exact hj), if_pos rfl]; exact e1
  · rw [eAt_set (by rw [hl]; exact hj), if_pos rfl]; exact e2
  · rw [eAt_set (by rw [hl]; exact hj), if_pos rfl]; exact e3
  · rw [eAt_set (by rw [hl]; exact hj), if_neg (by omega)]; exact r i h1 h2
theorem HoldQE.set_un (h : HoldQE W g cp n K j) (hj : j < n) (v : ByteArray) : HoldQE (W.setCell ⟨g, j * 5 + 4, none⟩ (.string v)) g cp n K j ∧ W.grownBy (W.setCell ⟨g, j * 5 + 4, none⟩ (.string v)) (some g) := by
  obtain ⟨KC, hl, hw, e1, e2, e3, r⟩ := h
  have s := hw.stored (j * 5 + 4) (.string v)
  rw [rowOf_set_QE_un v KC j (by rw [hl]; exact hj)] at s
  refine ⟨⟨_, by rw [List.length_set, hl], s.1, ?_, ?_, ?_, fun i h1 h2 => ?_⟩, s.2⟩
  · rw [eAt_set (by rw [hl]; exact hj), if_pos rfl]; exact e1
  · rw [eAt_set (by rw [hl]; exact hj), if_pos rfl]; exact e2
  · rw [eAt_set (by rw [hl]; exact hj), if_pos rfl]; exact e3
  · rw [eAt_set (by rw [hl]; exact hj), if_neg (by omega)]; exact r i h1 h2
theorem HoldQE.start {w : World} {lo hi : Nat} {s : Nat → Nat} (h : MkD 69 QE.cs 5 InAct w lo hi g cp K s j W) (hj : j < K.length) : HoldQE W g cp K.length K j := by
  obtain ⟨KC, hl, hw, r⟩ := h.row
  have e := r j (Nat.le_refl _) hj
  rw [OwnK, hl] at hw
  exact ⟨KC, hl, hw, by rw [e], by rw [e], by rw [e], fun i h1 h2 => r i (by omega) h2⟩
theorem HoldQE.fin (h : HoldQE W g cp K.length K j) : ∃ K', K'.length = K.length ∧ OwnK 69 QE.cs 5 W g cp K' ∧ ∀ i, j + 1 ≤ i → i < K.length → eAt K' i = eAt K i := by
  obtain ⟨KC, hl, hw, -, -, -, r⟩ := h
  exact ⟨KC, hl, by rw [OwnK, hl]; exact hw, r⟩
end

end Go.Proofs.YtcfhpcbkdpgboaaGreatDoor
