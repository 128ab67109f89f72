/-
  What the model answers for a fact's text: factT.
-/
import Derived.Test.YtaflokfgbmlmaacDoorFactT
import Derived.Deep.RegionHeld3
namespace Go.Proofs.YtaflokfgbmlmaacDoor
open Go.RowKit
set_option linter.unusedVariables false

theorem factT_no {kd : ByteArray} {L : List V3} (h : factB kd L = false) : factT kd L = ⟨#[]⟩ := by unfold factT; rw [if_neg (by rw [h]; simp)]
theorem factT_yes {kd : ByteArray} {L : List V3} (h : factB kd L = true) : factT kd L = kd ++ (⟨#[40]⟩ ++ ⟨(joinV L).toArray⟩ ++ ⟨#[41]⟩) := by unfold factT; rw [if_pos h]
theorem factB_open {kd : ByteArray} {L : List V3} (h : factB kd L = true) : nameB kd = true ∧ L.length ≤ 5 ∧ ∀ v ∈ L, v.ok = true := by
  unfold factB at h
  simp only [Bool.and_eq_true, decide_eq_true_eq, List.all_eq_true] at h
  exact ⟨h.1.1, h.1.2, h.2⟩
theorem joinV_le {L : List V3} (h : ∀ v ∈ L, v.ok = true) : (joinV L).length ≤ 23 * L.length := by
  have := joinV_take h L.length (Nat.le_refl _)
  rwa [List.take_length] at this
theorem name_size {s : ByteArray} (h : nameB s = true) : s.size ≤ 12 := by
  unfold nameB inB at h
  simp only [Bool.and_eq_true, decide_eq_true_eq] at h
  omega
theorem keepT {w0 W w' : World} {B : Nat} {p0 p1 : Addr} {v0 v1 : Value} {a : Option Addr} {L : List V3} (hb : Below W.heap.size W w')
    (h : W.cell? p0 = some v0 ∧ W.cell? p1 = some v1 ∧ RdV W a L ∧ Below B w0 W ∧ B ≤ W.heap.size) :
    w'.cell? p0 = some v0 ∧ w'.cell? p1 = some v1 ∧ RdV w' a L ∧ Below B w0 w' ∧ B ≤ w'.heap.size := by
  obtain ⟨h0, h1, h2, h3, h4⟩ := h
  have k : ∀ {a : Addr} {v : Value}, W.cell? a = some v → w'.cell? a = some v := fun {a v} h => by rw [hb.cell (World.block_lt_of_cell? W _ h)]; exact h
  exact ⟨k h0, k h1, h2.below hb, h3.trans (hb.mono h4), Nat.le_trans h4 hb.size⟩
theorem rdT {w0 W : World} {B : Nat} {p0 p1 : Addr} {v0 v1 : Value} {a : Option Addr} {L : List V3}
    (h : W.cell? p0 = some v0 ∧ W.cell? p1 = some v1 ∧ RdV W a L ∧ Below B w0 W ∧ B ≤ W.heap.size) : RdV W a L := h.2.2.1

set_option maxRecDepth 100000 in
set_option maxHeartbeats 1600000 in
theorem specFactText_any (kd : ByteArray) (a : Option Addr) (cap : Nat) (L : List V3) (w : World) (hkd : kd.size ≤ maxLen) (hr : RdV w a L) (hs : ∀ v ∈ L, v.S.size ≤ maxLen) (hm : L.length ≤ 1048580) :
    Calls Tryd.prog 34 #[.agg #[.string kd, .slice a L.length cap]] w fun e w' =>
      e = .returned (.string (factT kd L)) ∧ Below w.heap.size w w' := by
  have b0 := below_al w (.cells #[.string kd, .slice a L.length cap] 71)
  have hX := box2_new w (.string kd) (.slice a L.length cap) 71
  go_enter Tryd.func34, Tryd.ntmps34
  go_wp2_with fail
  refine (specFactOk_any kd a cap L _ hkd (hr.below b0) hs hm).mono ?_
  rintro e w1 ⟨rfl, hb1⟩
  have HX := hide (box_below hX hb1 (by simp))
  have hB1 : Below w.heap.size w w1 := b0.trans (hb1.mono b0.size)
  clear hb1 b0 hX
  cases hv : factB kd L
  · have HV := hide (factT_no hv)
    clear hv
    go_wp2
    go_ret
    exact ⟨by rw [HV.out]; rfl, hB1⟩
  · obtain ⟨x0, x1, -, -⟩ := box2_cell HX.out
    obtain ⟨hn, h5, hok⟩ := factB_open hv
    have HV := hide (factT_yes hv)
    have HOk := hide hok
    clear hv hok
    have hkn := name_size hn
    have hjn := joinV_le HOk.out
    have r1 := hr.below hB1
    have z1 := hB1.size
    obtain ⟨x, hx⟩ : ∃ x, x = (⟨#[40]⟩ ++ ⟨(joinV L).toArray⟩ ++ ⟨#[41]⟩ : ByteArray) := ⟨_, rfl⟩
    have hxs : x.size ≤ 117 := by
      rw [hx, ByteArray.size_append, ByteArray.size_append, show (ByteArray.mk #[40]).size = 1 from rfl, show (ByteArray.mk #[41]).size = 1 from rfl, show (ByteArray.mk (joinV L).toArray).size = (joinV L).length from by show (joinV L).toArray.size = _; simp]
      omega
    have HL := hide (fun W (h : RdV W a L) => l3ValsText_any a cap L W h h5 HOk.out)
    rw [← hx] at HV HL
    have hnot : ¬ 9223372036854775807 < kd.size + x.size := by omega
    have hnot2 : kd.size + x.size ≤ 9223372036854775807 := by omega
    clear hx HX hn hjn hxs hkn
    go_wp2_with fail
    go_region_held3 (fun W => W.cell? ⟨w.heap.size, 0, none⟩ = some (.string kd) ∧ W.cell? ⟨w.heap.size, 1, none⟩ = some (.slice a L.length cap) ∧ RdV W a L ∧ Below w.heap.size w W ∧ w.heap.size ≤ W.heap.size) (first | exact ⟨x0, x1, r1.heap rfl, hB1.drew, z1⟩ | exact keepT (by assumption) (by assumption))
      (first | (go_at_call 77; refine (HL.out _ (rdT (by assumption))).mono ?_; rintro e w2 ⟨rfl, hb2⟩))
    all_goals
      obtain ⟨-, -, -, hB2, -⟩ : w2.cell? ⟨w.heap.size, 0, none⟩ = some (.string kd) ∧ w2.cell? ⟨w.heap.size, 1, none⟩ = some (.slice a L.length cap) ∧ RdV w2 a L ∧ Below w.heap.size w w2 ∧ w.heap.size ≤ w2.heap.size := by assumption
      go_wp2
      go_ret
      exact ⟨by rw [HV.out]; rfl, hB2⟩
end Go.Proofs.YtaflokfgbmlmaacDoor
