/-
  The contracts of the laws' own marks on rows of Args.
-/
import Derived.Test.YtfgigcdfmkfkjaaJoined3
import Derived.Test.YtfgigcdfmkfkjaaJoined4
import Derived.Deep.RegionHeld3
namespace Go.Proofs.Ytfgigcdfmkfkjaa
open Go.RowKit
set_option linter.unusedVariables false

def markA5 (k : Nat) : A5 := ⟨(k : Int), markT (k + 1), ⟨((k + 2 : Nat) : Int), ((k + 3 : Nat) : Int), markT (k + 4)⟩⟩
def marksA5 (k n : Nat) : List A5 := (List.range n).map fun i => markA5 (k + 5 * i)
theorem marksA5_length (k n : Nat) : (marksA5 k n).length = n := by simp [marksA5]
theorem marksA5_at {k n i : Nat} (h : i < n) : eAt (marksA5 k n) i = markA5 (k + 5 * i) := by rw [eAt_in (by rw [marksA5_length]; exact h)]; simp [marksA5]

set_option maxRecDepth 100000 in
set_option maxHeartbeats 3200000 in
theorem markArgS_any (g cap k0 : Nat) (L : List A5) (w : World) (hown : OwnArg w g cap L) (hn : L.length ≤ 2097152) (hk : k0 ≤ 33554500) :
    Calls Try.prog 108 #[.slice (some ⟨g, 0, none⟩) L.length cap, .int .i64 (k0 : Int)] w fun e w' =>
      e = .returned (.int .i64 ((k0 + 5 * L.length : Nat) : Int)) ∧ OwnArg w' g cap (marksA5 k0 L.length) ∧ w.grownBy w' (some g) := by
  obtain ⟨n, hN⟩ : ∃ n, n = L.length := ⟨_, rfl⟩
  have hown0 : w.ownsRow 0 157 5 (.slice (some ⟨g, 0, none⟩) n cap) n (rowOf A5.cs L) := by rw [hN]; exact hown
  rw [← hN] at hn ⊢
  have HN := hide hN
  have HO := hide hown0
  clear hN hown hown0
  have hfin : ∀ {W : World}, W.ownsRow 0 157 5 (.slice (some ⟨g, 0, none⟩) n cap) n (rowOf A5.cs (marksA5 k0 n)) → OwnArg W g cap (marksA5 k0 n) := fun h => OwnK.of A5.len (by decide) h
  have HFin := hide (fun W => @hfin W)
  clear hfin
  go_enter Try.func108, Try.ntmps108
  go_wp2
  go_loopw [1, 5] (fun kk i wr => ∃ j : Nat, j ≤ n ∧ i = .int .i64 j ∧ (∃ m : Nat, m = k0 + 5 * j ∧ kk = .int .i64 (m : Int)) ∧ wr.ownsRow 0 157 5 (.slice (some ⟨g, 0, none⟩) n cap) n (rowOf A5.cs (partL (fun i => markA5 (k0 + 5 * i)) L j)) ∧ w.grownBy wr (some g)) (fun _ i _ => n - (intOf i).toNat)
  case atStart => exact ⟨0, Nat.zero_le _, rfl, ⟨k0, rfl, rfl⟩, HO.out, World.grownBy.refl _ _⟩
  case round =>
    obtain ⟨j, hj, rfl, ⟨m, hm, rfl⟩, hown, hgr⟩ := hrel
    have HM := hide hm
    have hm2 : m ≤ 60000000 := by omega
    clear hm
    by_cases hlt : j < n
    · have hlen : (rowOf A5.cs (partL (fun i => markA5 (k0 + 5 * i)) L j)).length = n * 5 := by rw [rowOf_length A5.len, partL_length (by rw [← HN.out]; omega), ← HN.out]
      have hset := rowOf_set_A5 (markA5 m) (partL (fun i => markA5 (k0 + 5 * i)) L j) j (by rw [partL_length (by rw [← HN.out]; omega), ← HN.out]; exact hlt)
      rw [show markA5 m = (fun i => markA5 (k0 + 5 * i)) j from by rw [HM.out], partL_set (by rw [← HN.out]; exact hlt)] at hset
      have HSet := hide hset
      generalize rowOf A5.cs (partL (fun i => markA5 (k0 + 5 * i)) L j) = xs0 at hown hlen HSet
      clear hset
      have hl0 : (xs0).length = n * 5 := hlen
      obtain ⟨u0, c0⟩ : ∃ u, (wr).cell? ⟨g, j * 5, none⟩ = some u := by
        rw [hown.cellAt (j * 5) (by omega), List.getElem?_eq_getElem (by omega)]
        exact ⟨_, rfl⟩
      have f0 := hown.frozenAt (j * 5)
      have hs0 := hown.stored (j * 5) (.int .i64 ((m : Int)))
      have hq0 := grown_tt hgr hs0.2
      have hp0 := hs0.1
      clear hs0
      go_wp2_with fail
      refine (markText_i ((m : Int) + 1) (m + 1) _ (by omega) (by omega)).mono ?_
      rintro e w1 ⟨rfl, hb1⟩
      have ho1 := ownsRow_below' hp0 hb1
      have hg1 := grown_belowM hq0 hb1
      clear hb1
      clear c0 f0 hl0
      have hl1 : (((xs0).set (j * 5) (.int .i64 ((m : Int))))).length = n * 5 := by simp only [List.length_set]; exact hlen
      obtain ⟨u1, c1⟩ : ∃ u, (w1).cell? ⟨g, j * 5 + 1, none⟩ = some u := by
        rw [ho1.cellAt (j * 5 + 1) (by omega), List.getElem?_eq_getElem (by omega)]
        exact ⟨_, rfl⟩
      have f1 := ho1.frozenAt (j * 5 + 1)
      have hs1 := ho1.stored (j * 5 + 1) (.string (markT (m + 1)))
      have hq1 := grown_tt hg1 hs1.2
      have hp1 := hs1.1
      clear hs1
      have hl2 : (((((xs0).set (j * 5) (.int .i64 ((m : Int))))).set (j * 5 + 1) (.string (markT (m + 1))))).length = n * 5 := by simp only [List.length_set]; exact hlen
      obtain ⟨u2, c2⟩ : ∃ u, ((w1.setCell ⟨g, j * 5 + 1, none⟩ (.string (markT (m + 1))))).cell? ⟨g, j * 5 + 2, none⟩ = some u := by
        rw [hp1.cellAt (j * 5 + 2) (by omega), List.getElem?_eq_getElem (by omega)]
        exact ⟨_, rfl⟩
      have f2 := hp1.frozenAt (j * 5 + 2)
      have hs2 := hp1.stored (j * 5 + 2) (.int .i64 ((m : Int) + 1 + 1))
      have hq2 := grown_tt hq1 hs2.2
      have hp2 := hs2.1
      clear hs2
      have hl3 : (((((((xs0).set (j * 5) (.int .i64 ((m : Int))))).set (j * 5 + 1) (.string (markT (m + 1))))).set (j * 5 + 2) (.int .i64 ((m : Int) + 1 + 1)))).length = n * 5 := by simp only [List.length_set]; exact hlen
      obtain ⟨u3, c3⟩ : ∃ u, (((w1.setCell ⟨g, j * 5 + 1, none⟩ (.string (markT (m + 1)))).setCell ⟨g, j * 5 + 2, none⟩ (.int .i64 ((m : Int) + 1 + 1)))).cell? ⟨g, j * 5 + 3, none⟩ = some u := by
        rw [hp2.cellAt (j * 5 + 3) (by omega), List.getElem?_eq_getElem (by omega)]
        exact ⟨_, rfl⟩
      have f3 := hp2.frozenAt (j * 5 + 3)
      have hs3 := hp2.stored (j * 5 + 3) (.int .i64 ((m : Int) + 1 + 1 + 1))
      have hq3 := grown_tt hq2 hs3.2
      have hp3 := hs3.1
      clear hs3
      go_wp2_with fail
      refine (markText_i ((m : Int) + 1 + 1 + 1 + 1) (m + 4) _ (by omega) (by omega)).mono ?_
      rintro e w2 ⟨rfl, hb2⟩
      have ho2 := ownsRow_below' hp3 hb2
      have hg2 := grown_belowM hq3 hb2
      clear hb2
      clear c1 f1 hl1 c2 f2 hl2 c3 f3 hl3
      have hl4 : (((((((((xs0).set (j * 5) (.int .i64 ((m : Int))))).set (j * 5 + 1) (.string (markT (m + 1))))).set (j * 5 + 2) (.int .i64 ((m : Int) + 1 + 1)))).set (j * 5 + 3) (.int .i64 ((m : Int) + 1 + 1 + 1)))).length = n * 5 := by simp only [List.length_set]; exact hlen
      obtain ⟨u4, c4⟩ : ∃ u, (w2).cell? ⟨g, j * 5 + 4, none⟩ = some u := by
        rw [ho2.cellAt (j * 5 + 4) (by omega), List.getElem?_eq_getElem (by omega)]
        exact ⟨_, rfl⟩
      have f4 := ho2.frozenAt (j * 5 + 4)
      have hs4 := ho2.stored (j * 5 + 4) (.string (markT (m + 4)))
      have hq4 := grown_tt hg2 hs4.2
      have hp4 := hs4.1
      clear hs4
      have HE := hide (HSet.out)
      have hE2 : ((((((((((xs0).set (j * 5) (.int .i64 ((m : Int))))).set (j * 5 + 1) (.string (markT (m + 1))))).set (j * 5 + 2) (.int .i64 ((m : Int) + 1 + 1)))).set (j * 5 + 3) (.int .i64 ((m : Int) + 1 + 1 + 1)))).set (j * 5 + 4) (.string (markT (m + 4)))) = rowOf A5.cs (partL (fun i => markA5 (k0 + 5 * i)) L (j + 1)) := by
        rw [← HE.out, ← HM.out]
        rfl
      rw [hE2] at hp4
      have HP := hide hp4
      have HQ := hide hq4
      clear hE2 HE HSet
      go_wp2
      go_roundw
      case rel => exact ⟨j + 1, by omega, by go_num, ⟨m + 5, by rw [HM.out]; omega, by go_num⟩, HP.out, HQ.out⟩
      case measure => simp [intOf]; omega
    · obtain rfl : j = n := by omega
      rw [partL_end (by rw [← HN.out]; exact Nat.le_refl _)] at hown
      have HF := hide (HFin.out wr hown)
      clear hown
      go_wp2
      go_ret
      exact ⟨by rw [HM.out]; rfl, HF.out, hgr⟩
end Go.Proofs.Ytfgigcdfmkfkjaa
