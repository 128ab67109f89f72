/-
  The laws' own marks on rows of Pats: they write into that row and its elements' lists alone.
-/
import Derived.Test.YtcfhpcbkdpgboaaGreatDoorJMarkArg
import Derived.Test.YtcfhpcbkdpgboaaGreatDoorJoined1
namespace Go.Proofs.YtcfhpcbkdpgboaaGreatDoor
open Go.RowKit
set_option linter.unusedVariables false

def PE.wt (x : PE) : Nat := 2 + 5 * x.L.length
theorem PE.wt_sz (x : PE) : x.wt ≤ 5 * (x.sz + 1) := by unfold PE.wt PE.sz; omega
/-- the row, but for what of the j-th element is no list -/
def HoldPE (W : World) (g cp n : Nat) (K : List PE) (j : Nat) : Prop := ∃ KC, KC.length = n ∧ W.ownsRow 0 58 3 (.slice (some ⟨g, 0, none⟩) n cp) n (rowOf PE.cs KC) ∧ (eAt KC j).a = (eAt K j).a ∧ (eAt KC j).cap = (eAt K j).cap ∧ (eAt KC j).L = (eAt K j).L ∧ ∀ i, j + 1 ≤ i → i < n → eAt KC i = eAt K i
section
variable {W W' : World} {g cp n j : Nat} {K : List PE}
theorem HoldPE.cell (h : HoldPE W g cp n K j) (o : Nat) (ho : o < 3) (hj : j < n) : ∃ u, W.cell? ⟨g, j * 3 + o, none⟩ = some u := by
  obtain ⟨KC, hl, hw, -⟩ := h
  rw [hw.cellAt (j * 3 + o) (by omega), List.getElem?_eq_getElem (by rw [rowOf_length PE.len, hl]; omega)]
  exact ⟨_, rfl⟩
theorem HoldPE.frozen (h : HoldPE W g cp n K j) (p : Nat) : W.frozen? ⟨g, p, none⟩ = false := by obtain ⟨KC, hl, hw, -⟩ := h; exact hw.frozenAt p
theorem HoldPE.list (h : HoldPE W g cp n K j) (hj : j < n) : W.cell? ⟨g, j * 3 + 1, none⟩ = some (.slice (eAt K j).a (eAt K j).L.length (eAt K j).cap) := by
  obtain ⟨KC, hl, hw, e1, e2, e3, -⟩ := h
  have hg := rowOf_get PE.len KC j 1 (by rw [hl]; exact hj) (by omega)
  rw [hw.cellAt (j * 3 + 1) (by omega), hg, ← eAt_in (by rw [hl]; exact hj), ← e1, ← e2, ← e3]
  rfl
theorem HoldPE.later (h : HoldPE W g cp n K j) (hb : Below W.heap.size W W') : HoldPE W' g cp n K j := by obtain ⟨KC, hl, hw, r⟩ := h; exact ⟨KC, hl, ownsRow_below' hw hb, r⟩
theorem HoldPE.other (h : HoldPE W g cp n K j) {q : Nat} (hg : W.grownBy W' (some q)) (hq : g ≠ q) : HoldPE W' g cp n K j := by obtain ⟨KC, hl, hw, r⟩ := h; exact ⟨KC, hl, World.ownsRow.kept hw hg (.inr (by simp [Value.ownBlock]; exact hq)), r⟩
theorem HoldPE.lt (h : HoldPE W g cp n K j) : g < W.heap.size := by obtain ⟨KC, hl, hw, r⟩ := h; exact (hw.lt g rfl).2
theorem HoldPE.set_kd (h : HoldPE W g cp n K j) (hj : j < n) (v : ByteArray) : HoldPE (W.setCell ⟨g, j * 3, none⟩ (.string v)) g cp n K j ∧ W.grownBy (W.setCell ⟨g, j * 3, none⟩ (.string v)) (some g) := by
  obtain ⟨KC, hl, hw, e1, e2, e3, r⟩ := h
  have s := hw.stored (j * 3) (.string v)
  rw [rowOf_set_PE_kd v KC j (by rw [hl]; exact hj)] at s
  refine ⟨⟨_, by rw [List.length_set, hl], s.1, ?_, ?_, ?_, fun i h1 h2 => ?_⟩, s.2⟩
  · rw [eAt_set (by rw [hl]; exact hj), if_pos rfl]; exact e1
  · rw [eAt_set (by rw [hl]; exact hj), if_pos rfl]; exact e2
  · rw [eAt_set (by rw [hl]; exact hj), if_pos rfl]; exact e3
  · rw [eAt_set (by rw [hl]; exact hj), if_neg (by omega)]; exact r i h1 h2
theorem HoldPE.set_nt (h : HoldPE W g cp n K j) (hj : j < n) (v : Bool) : HoldPE (W.setCell ⟨g, j * 3 + 2, none⟩ (.bool v)) g cp n K j ∧ W.grownBy (W.setCell ⟨g, j * 3 + 2, none⟩ (.bool v)) (some g) := by
  obtain ⟨KC, hl, hw, e1, e2, e3, r⟩ := h
  have s := hw.stored (j * 3 + 2) (.bool v)
  rw [rowOf_set_PE_nt v KC j (by rw [hl]; exact hj)] at s
  refine ⟨⟨_, by rw [List.length_set, hl], s.1, ?_, ?_, ?_, fun i h1 h2 => ?_⟩, s.2⟩
  · rw [eAt_set (by rw [hl]; exact hj), if_pos rfl]; exact e1
  · rw [eAt_set (by rw [hl]; exact hj), if_pos rfl]; exact e2
  · rw [eAt_set (by rw [hl]; exact hj), if_pos rfl]; exact e3
  · rw [eAt_set (by rw [hl]; exact hj), if_neg (by omega)]; exact r i h1 h2
theorem HoldPE.start {w : World} {lo hi : Nat} {s : Nat → Nat} (h : MkD 58 PE.cs 3 InPat w lo hi g cp K s j W) (hj : j < K.length) : HoldPE W g cp K.length K j := by
  obtain ⟨KC, hl, hw, r⟩ := h.row
  have e := r j (Nat.le_refl _) hj
  rw [OwnK, hl] at hw
  exact ⟨KC, hl, hw, by rw [e], by rw [e], by rw [e], fun i h1 h2 => r i (by omega) h2⟩
theorem HoldPE.fin (h : HoldPE W g cp K.length K j) : ∃ K', K'.length = K.length ∧ OwnK 58 PE.cs 3 W g cp K' ∧ ∀ i, j + 1 ≤ i → i < K.length → eAt K' i = eAt K i := by
  obtain ⟨KC, hl, hw, -, -, -, r⟩ := h
  exact ⟨KC, hl, by rw [OwnK, hl]; exact hw, r⟩
end

end Go.Proofs.YtcfhpcbkdpgboaaGreatDoor
