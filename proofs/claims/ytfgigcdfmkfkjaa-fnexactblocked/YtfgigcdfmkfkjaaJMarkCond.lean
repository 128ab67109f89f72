/-
  The contracts of the laws' own marks on rows of Conds.
-/
import Derived.Test.YtfgigcdfmkfkjaaJoined3
import Derived.Test.YtfgigcdfmkfkjaaJLawCond
import Derived.Test.YtfgigcdfmkfkjaaJMarkArg
import Derived.Deep.RegionHeld3
namespace Go.Proofs.Ytfgigcdfmkfkjaa
open Go.RowKit
set_option linter.unusedVariables false

def markC11 (k : Nat) : C11 := ⟨(k : Int), ⟨((k + 1 : Nat) : Int), markT (k + 2), ⟨((k + 3 : Nat) : Int), ((k + 4 : Nat) : Int), markT (k + 5)⟩⟩, ⟨((k + 6 : Nat) : Int), markT (k + 7), ⟨((k + 8 : Nat) : Int), ((k + 9 : Nat) : Int), markT (k + 10)⟩⟩⟩
def marksC11 (k n : Nat) : List C11 := (List.range n).map fun i => markC11 (k + 11 * i)
theorem marksC11_length (k n : Nat) : (marksC11 k n).length = n := by simp [marksC11]
theorem marksC11_at {k n i : Nat} (h : i < n) : eAt (marksC11 k n) i = markC11 (k + 11 * i) := by rw [eAt_in (by rw [marksC11_length]; exact h)]; simp [marksC11]

set_option maxRecDepth 100000 in
set_option maxHeartbeats 3200000 in
theorem markCondS_any (g cap k0 : Nat) (L : List C11) (w : World) (hown : OwnCond w g cap L) (hn : L.length ≤ 2097152) (hk : k0 ≤ 33554500) :
    Calls Try.prog 70 #[.slice (some ⟨g, 0, none⟩) L.length cap, .int .i64 (k0 : Int)] w fun e w' =>
      e = .returned (.int .i64 ((k0 + 11 * L.length : Nat) : Int)) ∧ OwnCond w' g cap (marksC11 k0 L.length) ∧ w.grownBy w' (some g) := by
  obtain ⟨n, hN⟩ : ∃ n, n = L.length := ⟨_, rfl⟩
  have hown0 : w.ownsRow 0 162 11 (.slice (some ⟨g, 0, none⟩) n cap) n (rowOf C11.cs L) := by rw [hN]; exact hown
  rw [← hN] at hn ⊢
  have HN := hide hN
  have HO := hide hown0
  clear hN hown hown0
  have hfin : ∀ {W : World}, W.ownsRow 0 162 11 (.slice (some ⟨g, 0, none⟩) n cap) n (rowOf C11.cs (marksC11 k0 n)) → OwnCond W g cap (marksC11 k0 n) := fun h => OwnK.of C11.len (by decide) h
  have HFin := hide (fun W => @hfin W)
  clear hfin
  go_enter Try.func70, Try.ntmps70
  go_wp2
  go_loopw [1, 5] (fun kk i wr => ∃ j : Nat, j ≤ n ∧ i = .int .i64 j ∧ (∃ m : Nat, m = k0 + 11 * j ∧ kk = .int .i64 (m : Int)) ∧ wr.ownsRow 0 162 11 (.slice (some ⟨g, 0, none⟩) n cap) n (rowOf C11.cs (partL (fun i => markC11 (k0 + 11 * i)) L j)) ∧ w.grownBy wr (some g)) (fun _ i _ => n - (intOf i).toNat)
  case atStart => exact ⟨0, Nat.zero_le _, rfl, ⟨k0, rfl, rfl⟩, HO.out, World.grownBy.refl _ _⟩
  case round =>
    obtain ⟨j, hj, rfl, ⟨m, hm, rfl⟩, hown, hgr⟩ := hrel
    have HM := hide hm
    have hm2 : m ≤ 60000000 := by omega
    clear hm
    by_cases hlt : j < n
    · have hlen : (rowOf C11.cs (partL (fun i => markC11 (k0 + 11 * i)) L j)).length = n * 11 := by rw [rowOf_length C11.len, partL_length (by rw [← HN.out]; omega), ← HN.out]
      have hset := rowOf_set_C11 (markC11 m) (partL (fun i => markC11 (k0 + 11 * i)) L j) j (by rw [partL_length (by rw [← HN.out]; omega), ← HN.out]; exact hlt)
      rw [show markC11 m = (fun i => markC11 (k0 + 11 * i)) j from by rw [HM.out], partL_set (by rw [← HN.out]; exact hlt)] at hset
      have HSet := hide hset
      generalize rowOf C11.cs (partL (fun i => markC11 (k0 + 11 * i)) L j) = xs0 at hown hlen HSet
      clear hset
      have hl0 : (xs0).length = n * 11 := hlen
      obtain ⟨u0, c0⟩ : ∃ u, (wr).cell? ⟨g, j * 11, none⟩ = some u := by
        rw [hown.cellAt (j * 11) (by omega), List.getElem?_eq_getElem (by omega)]
        exact ⟨_, rfl⟩
      have f0 := hown.frozenAt (j * 11)
      have hs0 := hown.stored (j * 11) (.int .i64 ((m : Int)))
      have hq0 := grown_tt hgr hs0.2
      have hp0 := hs0.1
      clear hs0
      have hl1 : (((xs0).set (j * 11) (.int .i64 ((m : Int))))).length = n * 11 := by simp only [List.length_set]; exact hlen
      obtain ⟨u1, c1⟩ : ∃ u, ((wr.setCell ⟨g, j * 11, none⟩ (.int .i64 ((m : Int))))).cell? ⟨g, j * 11 + 1, none⟩ = some u := by
        rw [hp0.cellAt (j * 11 + 1) (by omega), List.getElem?_eq_getElem (by omega)]
        exact ⟨_, rfl⟩
      have f1 := hp0.frozenAt (j * 11 + 1)
      have hs1 := hp0.stored (j * 11 + 1) (.int .i64 ((m : Int) + 1))
      have hq1 := grown_tt hq0 hs1.2
      have hp1 := hs1.1
      clear hs1
      go_wp2_with fail
      refine (markText_i ((m : Int) + 1 + 1) (m + 2) _ (by omega) (by omega)).mono ?_
      rintro e w1 ⟨rfl, hb1⟩
      have ho1 := ownsRow_below' hp1 hb1
      have hg1 := grown_belowM hq1 hb1
      clear hb1
      clear c0 f0 hl0 c1 f1 hl1
      have hl2 : (((((xs0).set (j * 11) (.int .i64 ((m : Int))))).set (j * 11 + 1) (.int .i64 ((m : Int) + 1)))).length = n * 11 := by simp only [List.length_set]; exact hlen
      obtain ⟨u2, c2⟩ : ∃ u, (w1).cell? ⟨g, j * 11 + 2, none⟩ = some u := by
        rw [ho1.cellAt (j * 11 + 2) (by omega), List.getElem?_eq_getElem (by omega)]
        exact ⟨_, rfl⟩
      have f2 := ho1.frozenAt (j * 11 + 2)
      have hs2 := ho1.stored (j * 11 + 2) (.string (markT (m + 2)))
      have hq2 := grown_tt hg1 hs2.2
      have hp2 := hs2.1
      clear hs2
      have hl3 : (((((((xs0).set (j * 11) (.int .i64 ((m : Int))))).set (j * 11 + 1) (.int .i64 ((m : Int) + 1)))).set (j * 11 + 2) (.string (markT (m + 2))))).length = n * 11 := by simp only [List.length_set]; exact hlen
      obtain ⟨u3, c3⟩ : ∃ u, ((w1.setCell ⟨g, j * 11 + 2, none⟩ (.string (markT (m + 2))))).cell? ⟨g, j * 11 + 3, none⟩ = some u := by
        rw [hp2.cellAt (j * 11 + 3) (by omega), List.getElem?_eq_getElem (by omega)]
        exact ⟨_, rfl⟩
      have f3 := hp2.frozenAt (j * 11 + 3)
      have hs3 := hp2.stored (j * 11 + 3) (.int .i64 ((m : Int) + 1 + 1 + 1))
      have hq3 := grown_tt hq2 hs3.2
      have hp3 := hs3.1
      clear hs3
      have hl4 : (((((((((xs0).set (j * 11) (.int .i64 ((m : Int))))).set (j * 11 + 1) (.int .i64 ((m : Int) + 1)))).set (j * 11 + 2) (.string (markT (m + 2))))).set (j * 11 + 3) (.int .i64 ((m : Int) + 1 + 1 + 1)))).length = n * 11 := by simp only [List.length_set]; exact hlen
      obtain ⟨u4, c4⟩ : ∃ u, (((w1.setCell ⟨g, j * 11 + 2, none⟩ (.string (markT (m + 2)))).setCell ⟨g, j * 11 + 3, none⟩ (.int .i64 ((m : Int) + 1 + 1 + 1)))).cell? ⟨g, j * 11 + 4, none⟩ = some u := by
        rw [hp3.cellAt (j * 11 + 4) (by omega), List.getElem?_eq_getElem (by omega)]
        exact ⟨_, rfl⟩
      have f4 := hp3.frozenAt (j * 11 + 4)
      have hs4 := hp3.stored (j * 11 + 4) (.int .i64 ((m : Int) + 1 + 1 + 1 + 1))
      have hq4 := grown_tt hq3 hs4.2
      have hp4 := hs4.1
      clear hs4
      go_wp2_with fail
      refine (markText_i ((m : Int) + 1 + 1 + 1 + 1 + 1) (m + 5) _ (by omega) (by omega)).mono ?_
      rintro e w2 ⟨rfl, hb2⟩
      have ho2 := ownsRow_below' hp4 hb2
      have hg2 := grown_belowM hq4 hb2
      clear hb2
      clear c2 f2 hl2 c3 f3 hl3 c4 f4 hl4
      have hl5 : (((((((((((xs0).set (j * 11) (.int .i64 ((m : Int))))).set (j * 11 + 1) (.int .i64 ((m : Int) + 1)))).set (j * 11 + 2) (.string (markT (m + 2))))).set (j * 11 + 3) (.int .i64 ((m : Int) + 1 + 1 + 1)))).set (j * 11 + 4) (.int .i64 ((m : Int) + 1 + 1 + 1 + 1)))).length = n * 11 := by simp only [List.length_set]; exact hlen
      obtain ⟨u5, c5⟩ : ∃ u, (w2).cell? ⟨g, j * 11 + 5, none⟩ = some u := by
        rw [ho2.cellAt (j * 11 + 5) (by omega), List.getElem?_eq_getElem (by omega)]
        exact ⟨_, rfl⟩
      have f5 := ho2.frozenAt (j * 11 + 5)
      have hs5 := ho2.stored (j * 11 + 5) (.string (markT (m + 5)))
      have hq5 := grown_tt hg2 hs5.2
      have hp5 := hs5.1
      clear hs5
      have hl6 : (((((((((((((xs0).set (j * 11) (.int .i64 ((m : Int))))).set (j * 11 + 1) (.int .i64 ((m : Int) + 1)))).set (j * 11 + 2) (.string (markT (m + 2))))).set (j * 11 + 3) (.int .i64 ((m : Int) + 1 + 1 + 1)))).set (j * 11 + 4) (.int .i64 ((m : Int) + 1 + 1 + 1 + 1)))).set (j * 11 + 5) (.string (markT (m + 5))))).length = n * 11 := by simp only [List.length_set]; exact hlen
      obtain ⟨u6, c6⟩ : ∃ u, ((w2.setCell ⟨g, j * 11 + 5, none⟩ (.string (markT (m + 5))))).cell? ⟨g, j * 11 + 6, none⟩ = some u := by
        rw [hp5.cellAt (j * 11 + 6) (by omega), List.getElem?_eq_getElem (by omega)]
        exact ⟨_, rfl⟩
      have f6 := hp5.frozenAt (j * 11 + 6)
      have hs6 := hp5.stored (j * 11 + 6) (.int .i64 ((m : Int) + 1 + 1 + 1 + 1 + 1 + 1))
      have hq6 := grown_tt hq5 hs6.2
      have hp6 := hs6.1
      clear hs6
      go_wp2_with fail
      refine (markText_i ((m : Int) + 1 + 1 + 1 + 1 + 1 + 1 + 1) (m + 7) _ (by omega) (by omega)).mono ?_
      rintro e w3 ⟨rfl, hb3⟩
      have ho3 := ownsRow_below' hp6 hb3
      have hg3 := grown_belowM hq6 hb3
      clear hb3
      clear c5 f5 hl5 c6 f6 hl6
      have hl7 : (((((((((((((((xs0).set (j * 11) (.int .i64 ((m : Int))))).set (j * 11 + 1) (.int .i64 ((m : Int) + 1)))).set (j * 11 + 2) (.string (markT (m + 2))))).set (j * 11 + 3) (.int .i64 ((m : Int) + 1 + 1 + 1)))).set (j * 11 + 4) (.int .i64 ((m : Int) + 1 + 1 + 1 + 1)))).set (j * 11 + 5) (.string (markT (m + 5))))).set (j * 11 + 6) (.int .i64 ((m : Int) + 1 + 1 + 1 + 1 + 1 + 1)))).length = n * 11 := by simp only [List.length_set]; exact hlen
      obtain ⟨u7, c7⟩ : ∃ u, (w3).cell? ⟨g, j * 11 + 7, none⟩ = some u := by
        rw [ho3.cellAt (j * 11 + 7) (by omega), List.getElem?_eq_getElem (by omega)]
        exact ⟨_, rfl⟩
      have f7 := ho3.frozenAt (j * 11 + 7)
      have hs7 := ho3.stored (j * 11 + 7) (.string (markT (m + 7)))
      have hq7 := grown_tt hg3 hs7.2
      have hp7 := hs7.1
      clear hs7
      have hl8 : (((((((((((((((((xs0).set (j * 11) (.int .i64 ((m : Int))))).set (j * 11 + 1) (.int .i64 ((m : Int) + 1)))).set (j * 11 + 2) (.string (markT (m + 2))))).set (j * 11 + 3) (.int .i64 ((m : Int) + 1 + 1 + 1)))).set (j * 11 + 4) (.int .i64 ((m : Int) + 1 + 1 + 1 + 1)))).set (j * 11 + 5) (.string (markT (m + 5))))).set (j * 11 + 6) (.int .i64 ((m : Int) + 1 + 1 + 1 + 1 + 1 + 1)))).set (j * 11 + 7) (.string (markT (m + 7))))).length = n * 11 := by simp only [List.length_set]; exact hlen
      obtain ⟨u8, c8⟩ : ∃ u, ((w3.setCell ⟨g, j * 11 + 7, none⟩ (.string (markT (m + 7))))).cell? ⟨g, j * 11 + 8, none⟩ = some u := by
        rw [hp7.cellAt (j * 11 + 8) (by omega), List.getElem?_eq_getElem (by omega)]
        exact ⟨_, rfl⟩
      have f8 := hp7.frozenAt (j * 11 + 8)
      have hs8 := hp7.stored (j * 11 + 8) (.int .i64 ((m : Int) + 1 + 1 + 1 + 1 + 1 + 1 + 1 + 1))
      have hq8 := grown_tt hq7 hs8.2
      have hp8 := hs8.1
      clear hs8
      have hl9 : (((((((((((((((((((xs0).set (j * 11) (.int .i64 ((m : Int))))).set (j * 11 + 1) (.int .i64 ((m : Int) + 1)))).set (j * 11 + 2) (.string (markT (m + 2))))).set (j * 11 + 3) (.int .i64 ((m : Int) + 1 + 1 + 1)))).set (j * 11 + 4) (.int .i64 ((m : Int) + 1 + 1 + 1 + 1)))).set (j * 11 + 5) (.string (markT (m + 5))))).set (j * 11 + 6) (.int .i64 ((m : Int) + 1 + 1 + 1 + 1 + 1 + 1)))).set (j * 11 + 7) (.string (markT (m + 7))))).set (j * 11 + 8) (.int .i64 ((m : Int) + 1 + 1 + 1 + 1 + 1 + 1 + 1 + 1)))).length = n * 11 := by simp only [List.length_set]; exact hlen
      obtain ⟨u9, c9⟩ : ∃ u, (((w3.setCell ⟨g, j * 11 + 7, none⟩ (.string (markT (m + 7)))).setCell ⟨g, j * 11 + 8, none⟩ (.int .i64 ((m : Int) + 1 + 1 + 1 + 1 + 1 + 1 + 1 + 1)))).cell? ⟨g, j * 11 + 9, none⟩ = some u := by
        rw [hp8.cellAt (j * 11 + 9) (by omega), List.getElem?_eq_getElem (by omega)]
        exact ⟨_, rfl⟩
      have f9 := hp8.frozenAt (j * 11 + 9)
      have hs9 := hp8.stored (j * 11 + 9) (.int .i64 ((m : Int) + 1 + 1 + 1 + 1 + 1 + 1 + 1 + 1 + 1))
      have hq9 := grown_tt hq8 hs9.2
      have hp9 := hs9.1
      clear hs9
      go_wp2_with fail
      refine (markText_i ((m : Int) + 1 + 1 + 1 + 1 + 1 + 1 + 1 + 1 + 1 + 1) (m + 10) _ (by omega) (by omega)).mono ?_
      rintro e w4 ⟨rfl, hb4⟩
      have ho4 := ownsRow_below' hp9 hb4
      have hg4 := grown_belowM hq9 hb4
      clear hb4
      clear c7 f7 hl7 c8 f8 hl8 c9 f9 hl9
      have hl10 : (((((((((((((((((((((xs0).set (j * 11) (.int .i64 ((m : Int))))).set (j * 11 + 1) (.int .i64 ((m : Int) + 1)))).set (j * 11 + 2) (.string (markT (m + 2))))).set (j * 11 + 3) (.int .i64 ((m : Int) + 1 + 1 + 1)))).set (j * 11 + 4) (.int .i64 ((m : Int) + 1 + 1 + 1 + 1)))).set (j * 11 + 5) (.string (markT (m + 5))))).set (j * 11 + 6) (.int .i64 ((m : Int) + 1 + 1 + 1 + 1 + 1 + 1)))).set (j * 11 + 7) (.string (markT (m + 7))))).set (j * 11 + 8) (.int .i64 ((m : Int) + 1 + 1 + 1 + 1 + 1 + 1 + 1 + 1)))).set (j * 11 + 9) (.int .i64 ((m : Int) + 1 + 1 + 1 + 1 + 1 + 1 + 1 + 1 + 1)))).length = n * 11 := by simp only [List.length_set]; exact hlen
      obtain ⟨u10, c10⟩ : ∃ u, (w4).cell? ⟨g, j * 11 + 10, none⟩ = some u := by
        rw [ho4.cellAt (j * 11 + 10) (by omega), List.getElem?_eq_getElem (by omega)]
        exact ⟨_, rfl⟩
      have f10 := ho4.frozenAt (j * 11 + 10)
      have hs10 := ho4.stored (j * 11 + 10) (.string (markT (m + 10)))
      have hq10 := grown_tt hg4 hs10.2
      have hp10 := hs10.1
      clear hs10
      have HE := hide (HSet.out)
      have hE2 : ((((((((((((((((((((((xs0).set (j * 11) (.int .i64 ((m : Int))))).set (j * 11 + 1) (.int .i64 ((m : Int) + 1)))).set (j * 11 + 2) (.string (markT (m + 2))))).set (j * 11 + 3) (.int .i64 ((m : Int) + 1 + 1 + 1)))).set (j * 11 + 4) (.int .i64 ((m : Int) + 1 + 1 + 1 + 1)))).set (j * 11 + 5) (.string (markT (m + 5))))).set (j * 11 + 6) (.int .i64 ((m : Int) + 1 + 1 + 1 + 1 + 1 + 1)))).set (j * 11 + 7) (.string (markT (m + 7))))).set (j * 11 + 8) (.int .i64 ((m : Int) + 1 + 1 + 1 + 1 + 1 + 1 + 1 + 1)))).set (j * 11 + 9) (.int .i64 ((m : Int) + 1 + 1 + 1 + 1 + 1 + 1 + 1 + 1 + 1)))).set (j * 11 + 10) (.string (markT (m + 10)))) = rowOf C11.cs (partL (fun i => markC11 (k0 + 11 * i)) L (j + 1)) := by
        rw [← HE.out, ← HM.out]
        rfl
      rw [hE2] at hp10
      have HP := hide hp10
      have HQ := hide hq10
      clear hE2 HE HSet
      go_wp2
      go_roundw
      case rel => exact ⟨j + 1, by omega, by go_num, ⟨m + 11, by rw [HM.out]; omega, by go_num⟩, HP.out, HQ.out⟩
      case measure => simp [intOf]; omega
    · obtain rfl : j = n := by omega
      rw [partL_end (by rw [← HN.out]; exact Nat.le_refl _)] at hown
      have HF := hide (HFin.out wr hown)
      clear hown
      go_wp2
      go_ret
      exact ⟨by rw [HM.out]; rfl, HF.out, hgr⟩
end Go.Proofs.Ytfgigcdfmkfkjaa
