/-
  What both HoldAlls answer: whether each holds.
-/
import Derived.Test.YtlaoiagpoomldaaHoldsI
import Derived.Test.YtlaoiagpoomldaaHoldsS
namespace Go.Proofs.Ytlaoiagpoomldaa
open Go.RowKit
set_option linter.unusedVariables false

/-- whether a condition holds of what is bound -/
def C11.holds (M : List B4) (x : C11) : Bool := holdsO x.Op (argV x.L.K x.L.S x.L.V M) (argV x.R.K x.R.S x.R.V M)
theorem all_yes {M : List B4} {L : List C11} (h : ∀ j, j < L.length → (eAt L j).holds M = true) : L.all (C11.holds M) = true := by
  rw [List.all_eq_true]
  intro x hx
  obtain ⟨j, hj, rfl⟩ := List.getElem_of_mem hx
  rw [← eAt_in hj]
  exact h j hj
theorem all_no {M : List B4} {L : List C11} {j : Nat} (hj : j < L.length) (h : (eAt L j).holds M = false) : L.all (C11.holds M) = false := by
  rw [List.all_eq_false]
  exact ⟨L[j], List.getElem_mem _, by rw [← eAt_in hj, h]; simp⟩

set_option maxRecDepth 100000 in
set_option maxHeartbeats 1600000 in
theorem specHoldAll_any (a : Option Addr) (cap : Nat) (L : List C11) (a2 : Option Addr) (cap2 : Nat) (M : List B4) (w : World) (hr : RdCond w a L) (hb : RdBind w a2 M) (hn : L.length ≤ 2097152) (hm : M.length ≤ 2097152) :
    Calls Try.prog 23 #[.slice a L.length cap, .slice a2 M.length cap2] w fun e w' => e = .returned (.bool (L.all (C11.holds M))) ∧ Below w.heap.size w w' := by
  obtain ⟨n, hN⟩ : ∃ n, n = L.length := ⟨_, rfl⟩
  obtain ⟨r, hR⟩ : ∃ r, r = L.all (C11.holds M) := ⟨_, rfl⟩
  rw [← hN] at hn
  rw [← hN, ← hR]
  have HN := hide hN
  have HR := hide hR
  clear hN hR
  go_enter Try.func23, Try.ntmps23
  go_wp2
  go_loopw [5] (fun i wr => ∃ (k : Nat), k ≤ n ∧ i = .int .i64 k ∧ (∀ j, j < k → (eAt L j).holds M = true) ∧ Below w.heap.size w wr) (fun i _ => n - (intOf i).toNat)
  case atStart => exact ⟨0, Nat.zero_le _, rfl, fun j hj => absurd hj (Nat.not_lt_zero _), Below.refl _ _⟩
  case round =>
    obtain ⟨k, hk, rfl, hall, hbel⟩ := hrel
    have HA := hide hall
    clear hall
    by_cases hlt : k < n
    · obtain ⟨b, off, hab, hbw, hc⟩ := RdCond.cells hr (by rw [← HN.out]; omega)
      obtain ⟨c0, c1, c2, c3, c4, c5, c6, c7, c8, c9, c10⟩ := hc k (by rw [← HN.out]; exact hlt)
      clear hc
      subst hab
      rw [← hbel.cell (p := ⟨b, off + k * 11, none⟩) hbw] at c0
      rw [← hbel.cell (p := ⟨b, off + k * 11 + 1, none⟩) hbw] at c1
      rw [← hbel.cell (p := ⟨b, off + k * 11 + 2, none⟩) hbw] at c2
      rw [← hbel.cell (p := ⟨b, off + k * 11 + 3, none⟩) hbw] at c3
      rw [← hbel.cell (p := ⟨b, off + k * 11 + 4, none⟩) hbw] at c4
      rw [← hbel.cell (p := ⟨b, off + k * 11 + 5, none⟩) hbw] at c5
      rw [← hbel.cell (p := ⟨b, off + k * 11 + 6, none⟩) hbw] at c6
      rw [← hbel.cell (p := ⟨b, off + k * 11 + 7, none⟩) hbw] at c7
      rw [← hbel.cell (p := ⟨b, off + k * 11 + 8, none⟩) hbw] at c8
      rw [← hbel.cell (p := ⟨b, off + k * 11 + 9, none⟩) hbw] at c9
      rw [← hbel.cell (p := ⟨b, off + k * 11 + 10, none⟩) hbw] at c10
      go_wp2_with fail
      refine (specHolds_any (eAt L k).Op (eAt L k).L (eAt L k).R _ _ M _ (hb.below hbel) hm).mono ?_
      rintro e w2 ⟨rfl, hb2⟩
      have hB2 : Below w.heap.size w w2 := hbel.trans (hb2.mono hbel.size)
      clear hb2 hbel c0 c1 c2 c3 c4 c5 c6 c7 c8 c9 c10
      obtain ⟨x, hx⟩ : ∃ x, x = holdsO (eAt L k).Op (argV (eAt L k).L.K (eAt L k).L.S (eAt L k).L.V M) (argV (eAt L k).R.K (eAt L k).R.S (eAt L k).R.V M) := ⟨_, rfl⟩
      rw [← hx]
      have HXk : Hid ((eAt L k).holds M = x) := hx.symm
      clear hx
      cases x
      · have HF : Hid (r = false) := by unfold Hid; rw [HR.out]; exact all_no (by rw [← HN.out]; exact hlt) HXk.out
        go_wp2
        go_ret
        exact ⟨by rw [HF.out]; rfl, hB2⟩
      · go_wp2
        go_roundw
        case rel => exact ⟨k + 1, by omega, by go_num, fun j hj => by
            by_cases hjk : j = k
            · rw [hjk]; exact HXk.out
            · exact HA.out j (by omega), hB2⟩
        case measure => simp [intOf]; omega
    · have HF : Hid (r = true) := by unfold Hid; rw [HR.out]; exact all_yes (fun j hj => HA.out j (by rw [← HN.out] at hj; omega))
      go_wp2
      go_ret
      exact ⟨by rw [HF.out]; rfl, hbel⟩

set_option maxRecDepth 100000 in
set_option maxHeartbeats 1600000 in
theorem implHoldAll_any (a : Option Addr) (cap : Nat) (L : List C11) (a2 : Option Addr) (cap2 : Nat) (M : List B4) (w : World) (hr : RdCond w a L) (hs : ∀ x ∈ L, x.small) (hb : RdBind w a2 M) (hs2 : ∀ x ∈ M, x.small) (hn : L.length ≤ 2097152) (hm : M.length ≤ 2097152) :
    Calls Try.prog 25 #[.slice a L.length cap, .slice a2 M.length cap2] w fun e w' => e = .returned (.bool (L.all (C11.holds M))) ∧ Below w.heap.size w w' := by
  obtain ⟨n, hN⟩ : ∃ n, n = L.length := ⟨_, rfl⟩
  obtain ⟨r, hR⟩ : ∃ r, r = L.all (C11.holds M) := ⟨_, rfl⟩
  rw [← hN] at hn
  rw [← hN, ← hR]
  have HN := hide hN
  have HR := hide hR
  have HS := hide hs
  have HS2 := hide hs2
  clear hN hR hs hs2
  go_enter Try.func25, Try.ntmps25
  go_wp2
  go_loopw [9] (fun i wr => ∃ (k : Nat), k ≤ n ∧ i = .int .i64 k ∧ (∀ j, j < k → (eAt L j).holds M = true) ∧ Below w.heap.size w wr) (fun i _ => n - (intOf i).toNat)
  case atStart => exact ⟨0, Nat.zero_le _, rfl, fun j hj => absurd hj (Nat.not_lt_zero _), Below.refl _ _⟩
  case round =>
    obtain ⟨k, hk, rfl, hall, hbel⟩ := hrel
    have HA := hide hall
    clear hall
    by_cases hlt : k < n
    · obtain ⟨b, off, hab, hbw, hc⟩ := RdCond.cells hr (by rw [← HN.out]; omega)
      obtain ⟨c0, c1, c2, c3, c4, c5, c6, c7, c8, c9, c10⟩ := hc k (by rw [← HN.out]; exact hlt)
      clear hc
      subst hab
      rw [← hbel.cell (p := ⟨b, off + k * 11, none⟩) hbw] at c0
      rw [← hbel.cell (p := ⟨b, off + k * 11 + 1, none⟩) hbw] at c1
      rw [← hbel.cell (p := ⟨b, off + k * 11 + 2, none⟩) hbw] at c2
      rw [← hbel.cell (p := ⟨b, off + k * 11 + 3, none⟩) hbw] at c3
      rw [← hbel.cell (p := ⟨b, off + k * 11 + 4, none⟩) hbw] at c4
      rw [← hbel.cell (p := ⟨b, off + k * 11 + 5, none⟩) hbw] at c5
      rw [← hbel.cell (p := ⟨b, off + k * 11 + 6, none⟩) hbw] at c6
      rw [← hbel.cell (p := ⟨b, off + k * 11 + 7, none⟩) hbw] at c7
      rw [← hbel.cell (p := ⟨b, off + k * 11 + 8, none⟩) hbw] at c8
      rw [← hbel.cell (p := ⟨b, off + k * 11 + 9, none⟩) hbw] at c9
      rw [← hbel.cell (p := ⟨b, off + k * 11 + 10, none⟩) hbw] at c10
      have hS : (eAt L k).small := by rw [eAt_in (by rw [← HN.out]; exact hlt)]; exact HS.out _ (List.getElem_mem _)
      have hbA := hbel.alloc hbel.size (.cells #[.int .i64 (eAt L k).Op, .int .i64 (eAt L k).L.K, .string (eAt L k).L.S, .int .i64 (eAt L k).L.V.K, .int .i64 (eAt L k).L.V.N, .string (eAt L k).L.V.S, .int .i64 (eAt L k).R.K, .string (eAt L k).R.S, .int .i64 (eAt L k).R.V.K, .int .i64 (eAt L k).R.V.N, .string (eAt L k).R.V.S] 34)
      go_wp2_with fail
      refine (implHolds_any (eAt L k).Op (eAt L k).L (eAt L k).R _ _ M _ hS.1 hS.2 (hb.below hbA) HS2.out hm).mono ?_
      rintro e w2 ⟨rfl, hb2⟩
      have hB2 : Below w.heap.size w w2 := hbA.trans (hb2.mono hbA.size)
      clear hb2 hbel hbA c0 c1 c2 c3 c4 c5 c6 c7 c8 c9 c10
      obtain ⟨x, hx⟩ : ∃ x, x = holdsO (eAt L k).Op (argV (eAt L k).L.K (eAt L k).L.S (eAt L k).L.V M) (argV (eAt L k).R.K (eAt L k).R.S (eAt L k).R.V M) := ⟨_, rfl⟩
      rw [← hx]
      have HXk : Hid ((eAt L k).holds M = x) := hx.symm
      clear hx
      cases x
      · have HF : Hid (r = false) := by unfold Hid; rw [HR.out]; exact all_no (by rw [← HN.out]; exact hlt) HXk.out
        go_wp2
        go_ret
        exact ⟨by rw [HF.out]; rfl, hB2⟩
      · go_wp2
        go_roundw
        case rel => exact ⟨k + 1, by omega, by go_num, fun j hj => by
            by_cases hjk : j = k
            · rw [hjk]; exact HXk.out
            · exact HA.out j (by omega), hB2⟩
        case measure => simp [intOf]; omega
    · have HF : Hid (r = true) := by unfold Hid; rw [HR.out]; exact all_yes (fun j hj => HA.out j (by rw [← HN.out] at hj; omega))
      go_wp2
      go_ret
      exact ⟨by rw [HF.out]; rfl, hbel⟩
end Go.Proofs.Ytlaoiagpoomldaa
