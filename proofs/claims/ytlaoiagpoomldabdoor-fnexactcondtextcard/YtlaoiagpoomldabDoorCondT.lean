/-
  What the text of a condition is; both CondTexts.
-/
import Derived.Test.YtlaoiagpoomldabDoorArgTI
import Derived.Test.YtlaoiagpoomldabDoorCondOk
import Derived.Deep.RegionHeld3
namespace Go.Proofs.YtlaoiagpoomldabDoor
open Go.RowKit
set_option linter.unusedVariables false

/-- a condition's text -/
def condT (Op : Int) (L R : A5) : ByteArray := if condB Op L R then L.tx ++ ⟨#[32]⟩ ++ signT Op ++ ⟨#[32]⟩ ++ R.tx else ⟨#[]⟩
theorem condT_no {Op : Int} {L R : A5} (h : condB Op L R = false) : condT Op L R = ⟨#[]⟩ := by unfold condT; rw [if_neg (by rw [h]; simp)]
theorem condT_yes {Op : Int} {L R : A5} (h : condB Op L R = true) : condT Op L R = L.tx ++ ⟨#[32]⟩ ++ signT Op ++ ⟨#[32]⟩ ++ R.tx := by unfold condT; rw [if_pos h]
theorem condB_open {Op : Int} {L R : A5} (h : condB Op L R = true) : inB Op 1 3 = true ∧ L.ok = true ∧ R.ok = true := by
  unfold condB mayB at h
  simp only [Bool.and_eq_true] at h
  exact ⟨h.1, h.2.1.1, h.2.2.1⟩
theorem signT_size (Op : Int) : (signT Op).size ≤ 1 := by
  unfold signT
  split
  · decide
  · split
    · decide
    · split <;> decide

set_option maxRecDepth 100000 in
set_option maxHeartbeats 1600000 in
theorem implCondText_any (Op : Int) (L R : A5) (w : World) (hl : L.fits) (hr : R.fits) (ht : Tab w) :
    Calls Tryd.prog 11 #[.agg #[.int .i64 Op, .int .i64 L.K, .string L.S, .int .i64 L.V.K, .int .i64 L.V.N, .string L.V.S, .int .i64 R.K, .string R.S, .int .i64 R.V.K, .int .i64 R.V.N, .string R.V.S]] w fun e w' => e = .returned (.string (condT Op L R)) ∧ Below w.heap.size w w' := by
  obtain ⟨tx, htx⟩ : ∃ tx, tx = condT Op L R := ⟨_, rfl⟩
  rw [← htx]
  have HTx := hide htx
  have HCo := hide (fun W => implCondOk_any Op L R W hl hr)
  have hN : condB Op L R = false → tx = ⟨#[]⟩ := fun h => by rw [htx, condT_no h]
  have hY : condB Op L R = true → tx = L.tx ++ ⟨#[32]⟩ ++ signT Op ++ ⟨#[32]⟩ ++ R.tx ∧ inB Op 1 3 = true ∧ L.tx.size ≤ 22 ∧ R.tx.size ≤ 22 := fun h => ⟨by rw [htx, condT_yes h], (condB_open h).1, txA_size (condB_open h).2.1, txA_size (condB_open h).2.2⟩
  have HA1 := hide (fun W (h : Tab W) => argText_any L.K L.S L.V W hl.1 hl.2 h)
  have HA2 := hide (fun W (h : Tab W) => argText_any R.K R.S R.V W hr.1 hr.2 h)
  obtain ⟨cb, hcb⟩ : ∃ cb, cb = condB Op L R := ⟨_, rfl⟩
  rw [← hcb] at hN hY HCo
  rw [show argT L.K L.S L.V = L.tx from rfl] at HA1
  rw [show argT R.K R.S R.V = R.tx from rfl] at HA2
  generalize L.tx = y at hY HA1
  generalize R.tx = z at hY HA2
  have HTab := hide ht
  clear htx HTx hcb ht
  obtain ⟨LK, LS, LVK, LVN, LVS⟩ := L
  obtain ⟨RK, RS, RVK, RVN, RVS⟩ := R
  have hX := boxk_new w #[.int .i64 Op, .int .i64 LK, .string LS, .int .i64 LVK, .int .i64 LVN, .string LVS, .int .i64 RK, .string RS, .int .i64 RVK, .int .i64 RVN, .string RVS] 34
  have b0 := below_al w (.cells #[.int .i64 Op, .int .i64 LK, .string LS, .int .i64 LVK, .int .i64 LVN, .string LVS, .int .i64 RK, .string RS, .int .i64 RVK, .int .i64 RVN, .string RVS] 34)
  clear hl hr
  go_enter Tryd.func11, Tryd.ntmps11
  go_wp2_with fail
  refine (HCo.out _).mono ?_
  rintro e w1 ⟨rfl, hb⟩
  have HX := hide (box_below hX hb (by simp))
  have hB : Below w.heap.size w w1 := b0.trans (hb.mono b0.size)
  clear hb hX b0 HCo
  cases cb
  · have HN := hide (hN rfl)
    clear hN hY
    go_wp2
    go_ret
    exact ⟨by rw [HN.out]; rfl, hB⟩
  · obtain ⟨hT, hi, hy, hz⟩ := hY rfl
    have HY := hide hT
    clear hN hY hT
    have x0 := boxk_cell HX.out 0 _ rfl
    go_wp2_with fail
    refine (signOf_any Op _).mono ?_
    rintro e w2 ⟨rfl, hb⟩
    have HX2 := hide (box_step HX.out hb)
    have hB2 : Below w.heap.size w w2 := hB.trans (hb.mono hB.size)
    clear hb HX hB x0
    obtain ⟨fn, hf⟩ := signF_yes hi
    have hst := signT_size Op
    rw [hf, hi]
    clear hf hi
    generalize signT Op = st at HY hst
    have HX3 := hide (box_old HX2.out (Array.getElem?_eq_some_iff.1 HX2.out).1 (.cells #[.string st, .func (.func fn) #[] #[]] 82))
    have HS3 := hide (boxk_new w2 #[.string st, .func (.func fn) #[] #[]] 82)
    have hB3 := hB2.alloc hB2.size (.cells #[.string st, .func (.func fn) #[] #[]] 82)
    clear HX2 hB2
    have n1 : ¬ 9223372036854775807 < y.size + 1 := by omega
    have m1 : y.size + 1 ≤ 9223372036854775807 := by omega
    have n2 : ¬ 9223372036854775807 < y.size + 1 + st.size := by omega
    have m2 : y.size + 1 + st.size ≤ 9223372036854775807 := by omega
    have n3 : ¬ 9223372036854775807 < y.size + 1 + st.size + 1 := by omega
    have m3 : y.size + 1 + st.size + 1 ≤ 9223372036854775807 := by omega
    have n4 : ¬ 9223372036854775807 < y.size + 1 + st.size + 1 + z.size := by omega
    have m4 : y.size + 1 + st.size + 1 + z.size ≤ 9223372036854775807 := by omega
    clear hy hz hst
    go_wp2_with fail
    generalize w2.alloc (.cells #[.string st, .func (.func fn) #[] #[]] 82) = w3 at HX3 HS3 hB3
    have HT1 := hide (show Tab w3.drew from HTab.out.later hB3.drew (Nat.le_refl _))
    have X1 := hide (show w3.drew.heap[w.heap.size]? = _ from HX3.out)
    have S1 := hide (show w3.drew.heap[w2.heap.size]? = _ from HS3.out)
    have B1 := hide (show Below w.heap.size w w3.drew from hB3.drew)
    have x1 := boxk_cell X1.out 1 _ rfl
    have x2 := boxk_cell X1.out 2 _ rfl
    have x3 := boxk_cell X1.out 3 _ rfl
    have x4 := boxk_cell X1.out 4 _ rfl
    have x5 := boxk_cell X1.out 5 _ rfl
    have x6 := boxk_cell X1.out 6 _ rfl
    have x7 := boxk_cell X1.out 7 _ rfl
    have x8 := boxk_cell X1.out 8 _ rfl
    have x9 := boxk_cell X1.out 9 _ rfl
    have x10 := boxk_cell X1.out 10 _ rfl
    have s0 := boxk_cell S1.out 0 _ rfl
    clear HX3 HS3 hB3 HTab
    go_region_held3 (fun W => W.cell? ⟨w.heap.size, 1, none⟩ = some (.int .i64 LK) ∧ W.cell? ⟨w.heap.size, 2, none⟩ = some (.string LS) ∧ W.cell? ⟨w.heap.size, 3, none⟩ = some (.int .i64 LVK) ∧ W.cell? ⟨w.heap.size, 4, none⟩ = some (.int .i64 LVN) ∧ W.cell? ⟨w.heap.size, 5, none⟩ = some (.string LVS) ∧ W.cell? ⟨w.heap.size, 6, none⟩ = some (.int .i64 RK) ∧ W.cell? ⟨w.heap.size, 7, none⟩ = some (.string RS) ∧ W.cell? ⟨w.heap.size, 8, none⟩ = some (.int .i64 RVK) ∧ W.cell? ⟨w.heap.size, 9, none⟩ = some (.int .i64 RVN) ∧ W.cell? ⟨w.heap.size, 10, none⟩ = some (.string RVS) ∧ W.cell? ⟨w2.heap.size, 0, none⟩ = some (.string st)) (first | exact ⟨x1, x2, x3, x4, x5, x6, x7, x8, x9, x10, s0⟩ | exact ⟨boxk_cell (box_step X1.out b1) 1 _ rfl, boxk_cell (box_step X1.out b1) 2 _ rfl, boxk_cell (box_step X1.out b1) 3 _ rfl, boxk_cell (box_step X1.out b1) 4 _ rfl, boxk_cell (box_step X1.out b1) 5 _ rfl, boxk_cell (box_step X1.out b1) 6 _ rfl, boxk_cell (box_step X1.out b1) 7 _ rfl, boxk_cell (box_step X1.out b1) 8 _ rfl, boxk_cell (box_step X1.out b1) 9 _ rfl, boxk_cell (box_step X1.out b1) 10 _ rfl, boxk_cell (box_step S1.out b1) 0 _ rfl⟩ | exact ⟨boxk_cell (box_step (box_step X1.out b1) b2) 1 _ rfl, boxk_cell (box_step (box_step X1.out b1) b2) 2 _ rfl, boxk_cell (box_step (box_step X1.out b1) b2) 3 _ rfl, boxk_cell (box_step (box_step X1.out b1) b2) 4 _ rfl, boxk_cell (box_step (box_step X1.out b1) b2) 5 _ rfl, boxk_cell (box_step (box_step X1.out b1) b2) 6 _ rfl, boxk_cell (box_step (box_step X1.out b1) b2) 7 _ rfl, boxk_cell (box_step (box_step X1.out b1) b2) 8 _ rfl, boxk_cell (box_step (box_step X1.out b1) b2) 9 _ rfl, boxk_cell (box_step (box_step X1.out b1) b2) 10 _ rfl, boxk_cell (box_step (box_step S1.out b1) b2) 0 _ rfl⟩)
      (first | (go_at_call_of 46 LK; refine (HA1.out _ ?_).mono ?_; (with_reducible exact HT1.out); rintro e u1 ⟨rfl, b1⟩) | (go_at_call_of 46 RK; refine (HA2.out _ ?_).mono ?_; (with_reducible exact HT1.out.later b1 (Nat.le_refl _)); rintro e u2 ⟨rfl, b2⟩))
    all_goals
      have BE : Below w.heap.size w u2 := (B1.out.trans (b1.mono B1.out.size)).trans (b2.mono (B1.out.trans (b1.mono B1.out.size)).size)
      clear b1 b2 X1 S1 B1 HT1 HA1 HA2
      go_wp2
      go_ret
      exact ⟨by rw [HY.out]; rfl, BE⟩
end Go.Proofs.YtlaoiagpoomldabDoor
