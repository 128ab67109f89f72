/-
  The contracts of the laws' own marks on rows of Binds.
-/
import Derived.Test.YtfgigcdfmkfkjaaJoined3
import Derived.Test.YtfgigcdfmkfkjaaJoined1
import Derived.Test.YtfgigcdfmkfkjaaJMarkArg
import Derived.Deep.RegionHeld3
namespace Go.Proofs.Ytfgigcdfmkfkjaa
open Go.RowKit
set_option linter.unusedVariables false

def markB4 (k : Nat) : B4 := ⟨markT k, ⟨((k + 1 : Nat) : Int), ((k + 2 : Nat) : Int), markT (k + 3)⟩⟩
def marksB4 (k n : Nat) : List B4 := (List.range n).map fun i => markB4 (k + 4 * i)
theorem marksB4_length (k n : Nat) : (marksB4 k n).length = n := by simp [marksB4]
theorem marksB4_at {k n i : Nat} (h : i < n) : eAt (marksB4 k n) i = markB4 (k + 4 * i) := by rw [eAt_in (by rw [marksB4_length]; exact h)]; simp [marksB4]

set_option maxRecDepth 100000 in
set_option maxHeartbeats 3200000 in
theorem markBindS_any (g cap k0 : Nat) (L : List B4) (w : World) (hown : OwnBind w g cap L) (hn : L.length ≤ 2097152) (hk : k0 ≤ 33554500) :
    Calls Try.prog 30 #[.slice (some ⟨g, 0, none⟩) L.length cap, .int .i64 (k0 : Int)] w fun e w' =>
      e = .returned (.int .i64 ((k0 + 4 * L.length : Nat) : Int)) ∧ OwnBind w' g cap (marksB4 k0 L.length) ∧ w.grownBy w' (some g) := by
  obtain ⟨n, hN⟩ : ∃ n, n = L.length := ⟨_, rfl⟩
  have hown0 : w.ownsRow 0 107 4 (.slice (some ⟨g, 0, none⟩) n cap) n (rowOf B4.cs L) := by rw [hN]; exact hown
  rw [← hN] at hn ⊢
  have HN := hide hN
  have HO := hide hown0
  clear hN hown hown0
  have hfin : ∀ {W : World}, W.ownsRow 0 107 4 (.slice (some ⟨g, 0, none⟩) n cap) n (rowOf B4.cs (marksB4 k0 n)) → OwnBind W g cap (marksB4 k0 n) := fun h => OwnK.of B4.len (by decide) h
  have HFin := hide (fun W => @hfin W)
  clear hfin
  go_enter Try.func30, Try.ntmps30
  go_wp2
  go_loopw [1, 5] (fun kk i wr => ∃ j : Nat, j ≤ n ∧ i = .int .i64 j ∧ (∃ m : Nat, m = k0 + 4 * j ∧ kk = .int .i64 (m : Int)) ∧ wr.ownsRow 0 107 4 (.slice (some ⟨g, 0, none⟩) n cap) n (rowOf B4.cs (partL (fun i => markB4 (k0 + 4 * i)) L j)) ∧ w.grownBy wr (some g)) (fun _ i _ => n - (intOf i).toNat)
  case atStart => exact ⟨0, Nat.zero_le _, rfl, ⟨k0, rfl, rfl⟩, HO.out, World.grownBy.refl _ _⟩
  case round =>
    obtain ⟨j, hj, rfl, ⟨m, hm, rfl⟩, hown, hgr⟩ := hrel
    have HM := hide hm
    have hm2 : m ≤ 60000000 := by omega
    clear hm
    by_cases hlt : j < n
    · have hlen : (rowOf B4.cs (partL (fun i => markB4 (k0 + 4 * i)) L j)).length = n * 4 := by rw [rowOf_length B4.len, partL_length (by rw [← HN.out]; omega), ← HN.out]
      have hset := rowOf_set_B4 (markB4 m) (partL (fun i => markB4 (k0 + 4 * i)) L j) j (by rw [partL_length (by rw [← HN.out]; omega), ← HN.out]; exact hlt)
      rw [show markB4 m = (fun i => markB4 (k0 + 4 * i)) j from by rw [HM.out], partL_set (by rw [← HN.out]; exact hlt)] at hset
      have HSet := hide hset
      generalize rowOf B4.cs (partL (fun i => markB4 (k0 + 4 * i)) L j) = xs0 at hown hlen HSet
      clear hset
      go_wp2_with fail
      refine (markText_i ((m : Int)) (m) _ (by omega) (by omega)).mono ?_
      rintro e w1 ⟨rfl, hb1⟩
      have ho1 := ownsRow_below' hown hb1
      have hg1 := grown_belowM hgr hb1
      clear hb1
      have hl0 : (xs0).length = n * 4 := hlen
      obtain ⟨u0, c0⟩ : ∃ u, (w1).cell? ⟨g, j * 4, none⟩ = some u := by
        rw [ho1.cellAt (j * 4) (by omega), List.getElem?_eq_getElem (by omega)]
        exact ⟨_, rfl⟩
      have f0 := ho1.frozenAt (j * 4)
      have hs0 := ho1.stored (j * 4) (.string (markT (m)))
      have hq0 := grown_tt hg1 hs0.2
      have hp0 := hs0.1
      clear hs0
      have hl1 : (((xs0).set (j * 4) (.string (markT (m))))).length = n * 4 := by simp only [List.length_set]; exact hlen
      obtain ⟨u1, c1⟩ : ∃ u, ((w1.setCell ⟨g, j * 4, none⟩ (.string (markT (m))))).cell? ⟨g, j * 4 + 1, none⟩ = some u := by
        rw [hp0.cellAt (j * 4 + 1) (by omega), List.getElem?_eq_getElem (by omega)]
        exact ⟨_, rfl⟩
      have f1 := hp0.frozenAt (j * 4 + 1)
      have hs1 := hp0.stored (j * 4 + 1) (.int .i64 ((m : Int) + 1))
      have hq1 := grown_tt hq0 hs1.2
      have hp1 := hs1.1
      clear hs1
      have hl2 : (((((xs0).set (j * 4) (.string (markT (m))))).set (j * 4 + 1) (.int .i64 ((m : Int) + 1)))).length = n * 4 := by simp only [List.length_set]; exact hlen
      obtain ⟨u2, c2⟩ : ∃ u, (((w1.setCell ⟨g, j * 4, none⟩ (.string (markT (m)))).setCell ⟨g, j * 4 + 1, none⟩ (.int .i64 ((m : Int) + 1)))).cell? ⟨g, j * 4 + 2, none⟩ = some u := by
        rw [hp1.cellAt (j * 4 + 2) (by omega), List.getElem?_eq_getElem (by omega)]
        exact ⟨_, rfl⟩
      have f2 := hp1.frozenAt (j * 4 + 2)
      have hs2 := hp1.stored (j * 4 + 2) (.int .i64 ((m : Int) + 1 + 1))
      have hq2 := grown_tt hq1 hs2.2
      have hp2 := hs2.1
      clear hs2
      go_wp2_with fail
      refine (markText_i ((m : Int) + 1 + 1 + 1) (m + 3) _ (by omega) (by omega)).mono ?_
      rintro e w2 ⟨rfl, hb2⟩
      have ho2 := ownsRow_below' hp2 hb2
      have hg2 := grown_belowM hq2 hb2
      clear hb2
      clear c0 f0 hl0 c1 f1 hl1 c2 f2 hl2
      have hl3 : (((((((xs0).set (j * 4) (.string (markT (m))))).set (j * 4 + 1) (.int .i64 ((m : Int) + 1)))).set (j * 4 + 2) (.int .i64 ((m : Int) + 1 + 1)))).length = n * 4 := by simp only [List.length_set]; exact hlen
      obtain ⟨u3, c3⟩ : ∃ u, (w2).cell? ⟨g, j * 4 + 3, none⟩ = some u := by
        rw [ho2.cellAt (j * 4 + 3) (by omega), List.getElem?_eq_getElem (by omega)]
        exact ⟨_, rfl⟩
      have f3 := ho2.frozenAt (j * 4 + 3)
      have hs3 := ho2.stored (j * 4 + 3) (.string (markT (m + 3)))
      have hq3 := grown_tt hg2 hs3.2
      have hp3 := hs3.1
      clear hs3
      have HE := hide (HSet.out)
      have hE2 : ((((((((xs0).set (j * 4) (.string (markT (m))))).set (j * 4 + 1) (.int .i64 ((m : Int) + 1)))).set (j * 4 + 2) (.int .i64 ((m : Int) + 1 + 1)))).set (j * 4 + 3) (.string (markT (m + 3)))) = rowOf B4.cs (partL (fun i => markB4 (k0 + 4 * i)) L (j + 1)) := by
        rw [← HE.out, ← HM.out]
        rfl
      rw [hE2] at hp3
      have HP := hide hp3
      have HQ := hide hq3
      clear hE2 HE HSet
      go_wp2
      go_roundw
      case rel => exact ⟨j + 1, by omega, by go_num, ⟨m + 4, by rw [HM.out]; omega, by go_num⟩, HP.out, HQ.out⟩
      case measure => simp [intOf]; omega
    · obtain rfl : j = n := by omega
      rw [partL_end (by rw [← HN.out]; exact Nat.le_refl _)] at hown
      have HF := hide (HFin.out wr hown)
      clear hown
      go_wp2
      go_ret
      exact ⟨by rw [HM.out]; rfl, HF.out, hgr⟩

theorem keep4c {W w' : World} {p0 p1 p2 p3 : Addr} {v0 v1 v2 v3 : Value} (hb : Below W.heap.size W w') (h : W.cell? p0 = some v0 ∧ W.cell? p1 = some v1 ∧ W.cell? p2 = some v2 ∧ W.cell? p3 = some v3) :
    w'.cell? p0 = some v0 ∧ w'.cell? p1 = some v1 ∧ w'.cell? p2 = some v2 ∧ w'.cell? p3 = some v3 := by
  obtain ⟨h0, h1, h2, h3⟩ := h
  have k : ∀ {a : Addr} {v : Value}, W.cell? a = some v → w'.cell? a = some v := fun {a v} h => by rw [hb.cell (World.block_lt_of_cell? W _ h)]; exact h
  exact ⟨k h0, k h1, k h2, k h3⟩
set_option maxRecDepth 100000 in
set_option maxHeartbeats 3200000 in
theorem heldBindS_any (a : Option Addr) (cap k0 n : Nat) (w : World) (hr : RdBind w a (marksB4 k0 n)) (hn : n ≤ 2097152) (hk : k0 ≤ 33554500) :
    Calls Try.prog 31 #[.slice a n cap, .int .i64 (k0 : Int)] w fun e w' =>
      e = .returned (.int .i64 ((k0 + 4 * n : Nat) : Int)) ∧ Below w.heap.size w w' := by
  go_enter Try.func31, Try.ntmps31
  go_wp2
  go_loopw [1, 5] (fun kk i wr => ∃ j : Nat, j ≤ n ∧ i = .int .i64 j ∧ (∃ m : Nat, m = k0 + 4 * j ∧ kk = .int .i64 (m : Int)) ∧ Below w.heap.size w wr) (fun _ i _ => n - (intOf i).toNat)
  case atStart => exact ⟨0, Nat.zero_le _, rfl, ⟨k0, rfl, rfl⟩, Below.refl _ _⟩
  case round =>
    obtain ⟨j, hj, rfl, ⟨m, hm, rfl⟩, hbel⟩ := hrel
    have HM := hide hm
    have hm2 : m ≤ 60000000 := by omega
    clear hm
    by_cases hlt : j < n
    · obtain ⟨b, off, hab, hbw, hc⟩ := RdBind.cells (hr.below hbel) (by rw [marksB4_length]; omega)
      obtain ⟨c0, c1, c2, c3⟩ := hc j (by rw [marksB4_length]; exact hlt)
      clear hc
      subst hab
      rw [marksB4_at hlt, ← HM.out] at c0 c1 c2 c3
      replace c0 : wr.cell? ⟨b, off + j * 4, none⟩ = some (.string (markT m)) := c0
      replace c1 : wr.cell? ⟨b, off + j * 4 + 1, none⟩ = some (.int .i64 ((m : Int) + 1)) := by rw [c1]; rfl
      replace c2 : wr.cell? ⟨b, off + j * 4 + 2, none⟩ = some (.int .i64 ((m : Int) + 1 + 1)) := by rw [c2]; rfl
      replace c3 : wr.cell? ⟨b, off + j * 4 + 3, none⟩ = some (.string (markT (m + 3))) := c3
      have k1 : ((m : Int) + 1 != (m : Int) + 1) = false := by simp
      have k2 : ((m : Int) + 1 + 1 != (m : Int) + 1 + 1) = false := by simp
      have k3 : ((markT m).toList == (markT m).toList) = true := by simp
      have k4 : ((markT (m + 3)).toList == (markT (m + 3)).toList) = true := by simp
      have HB := hide hbel
      go_wp2_with fail
      go_region_held3 (fun W => W.cell? ⟨b, off + j * 4, none⟩ = some (.string (markT m)) ∧ W.cell? ⟨b, off + j * 4 + 1, none⟩ = some (.int .i64 ((m : Int) + 1)) ∧ W.cell? ⟨b, off + j * 4 + 2, none⟩ = some (.int .i64 ((m : Int) + 1 + 1)) ∧ W.cell? ⟨b, off + j * 4 + 3, none⟩ = some (.string (markT (m + 3)))) (first | exact ⟨c0, c1, c2, c3⟩ | exact keep4c (below_dr hb2) ⟨c0, c1, c2, c3⟩)
        (first | (go_at_call 73; refine (markText_any m _ (by omega)).mono ?_; rintro e w2 ⟨rfl, hb2⟩))
      all_goals
        have B2 : Below w.heap.size w w2 := HB.out.drew.trans (hb2.mono HB.out.size)
        obtain ⟨d0, d1, d2, d3⟩ := keep4c (below_dr hb2) ⟨c0, c1, c2, c3⟩
        clear hb2 c0 c1 c2 c3 d0
        go_wp2_with fail
        have HB2 := hide B2
        go_region_held3 (fun W => W.cell? ⟨b, off + j * 4 + 1, none⟩ = some (.int .i64 ((m : Int) + 1)) ∧ W.cell? ⟨b, off + j * 4 + 1, none⟩ = some (.int .i64 ((m : Int) + 1)) ∧ W.cell? ⟨b, off + j * 4 + 2, none⟩ = some (.int .i64 ((m : Int) + 1 + 1)) ∧ W.cell? ⟨b, off + j * 4 + 3, none⟩ = some (.string (markT (m + 3)))) (first | exact ⟨d1, d1, d2, d3⟩ | exact keep4c (below_dr hb3) ⟨d1, d1, d2, d3⟩)
          (first | (go_at_call 73; refine (markText_i ((m : Int) + 1 + 1 + 1) (m + 3) _ (by omega) (by omega)).mono ?_; rintro e w3 ⟨rfl, hb3⟩))
        all_goals
          have B3 : Below w.heap.size w w3 := HB2.out.drew.trans (hb3.mono HB2.out.size)
          clear hb3 d1 d2 d3
          go_wp2
          go_roundw
          case rel => exact ⟨j + 1, by omega, by go_num, ⟨m + 4, by rw [HM.out]; omega, by go_num⟩, B3⟩
          case measure => simp [intOf]; omega
    · obtain rfl : j = n := by omega
      go_wp2
      go_ret
      exact ⟨by rw [HM.out]; rfl, hbel⟩
theorem heldBindS_1 (a : Option Addr) (cap n : Nat) (w : World) (hr : RdBind w a (marksB4 1 n)) (hn : n ≤ 2097152) :
    Calls Try.prog 31 #[.slice a n cap, .int .i64 1] w fun e w' => e = .returned (.int .i64 ((1 + 4 * n : Nat) : Int)) ∧ Below w.heap.size w w' := heldBindS_any a cap 1 n w hr hn (by omega)
end Go.Proofs.Ytfgigcdfmkfkjaa
