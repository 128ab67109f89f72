/-
  Whether two rows of plain elements are the same: slices.Equal.
-/
import Derived.Test.YtcfhpcbkdpgboaaJoined1
import Derived.Deep.RegionHeld3
namespace Go.Proofs.Ytcfhpcbkdpgboaa
open Go.RowKit
set_option linter.unusedVariables false

set_option maxRecDepth 100000 in
set_option maxHeartbeats 3200000 in
theorem sameArgS_any (a b : Option Addr) (n m ca cb : Nat) (L M : List A5) (w : World) (hz : L.length = n) (hy : M.length = m) (hr : RdArg w a L) (hq : RdArg w b M) (hn : n ≤ 1048580) (hm : m ≤ 1048580) :
    Calls Try.prog 63 #[.slice a n ca, .slice b m cb] w fun e w' => (∃ t : Bool, e = .returned (.bool t) ∧ (t = true ↔ L = M)) ∧ Below w.heap.size w w' := by
  by_cases hnm : n = m
  · subst hnm
    have q1 : ((n : Int) != (n : Int)) = false := by simp
    have HZ := hide hz
    have HY := hide hy
    clear hz hy
    go_enter Try.func63, Try.ntmps63
    go_wp2
    go_loopw [13] (fun i wr => ∃ (k : Nat), k ≤ n ∧ i = .int .i64 k ∧ (∀ j, j < k → eAt L j = eAt M j) ∧ Below w.heap.size w wr) (fun i _ => n - (intOf i).toNat)
    case atStart => exact ⟨0, Nat.zero_le _, rfl, fun j hj => absurd hj (Nat.not_lt_zero _), Below.refl _ _⟩
    case round =>
      obtain ⟨k, hk, rfl, hall, hbel⟩ := hrel
      have HA := hide hall
      clear hall
      by_cases hlt : k < n
      · obtain ⟨b1, o1, e1, hbw1, hc1⟩ := RdArg.cells hr (by rw [HZ.out]; omega)
        obtain ⟨b2, o2, e2, hbw2, hc2⟩ := RdArg.cells hq (by rw [HY.out]; omega)
        obtain ⟨c0, c1, c2, c3, c4⟩ := hc1 k (by rw [HZ.out]; exact hlt)
        obtain ⟨d0, d1, d2, d3, d4⟩ := hc2 k (by rw [HY.out]; exact hlt)
        clear hc1 hc2
        subst e1 e2
        rw [← hbel.cell (p := ⟨b1, o1 + k * 5, none⟩) hbw1] at c0
        rw [← hbel.cell (p := ⟨b1, o1 + k * 5 + 1, none⟩) hbw1] at c1
        rw [← hbel.cell (p := ⟨b1, o1 + k * 5 + 2, none⟩) hbw1] at c2
        rw [← hbel.cell (p := ⟨b1, o1 + k * 5 + 3, none⟩) hbw1] at c3
        rw [← hbel.cell (p := ⟨b1, o1 + k * 5 + 4, none⟩) hbw1] at c4
        rw [← hbel.cell (p := ⟨b2, o2 + k * 5, none⟩) hbw2] at d0
        rw [← hbel.cell (p := ⟨b2, o2 + k * 5 + 1, none⟩) hbw2] at d1
        rw [← hbel.cell (p := ⟨b2, o2 + k * 5 + 2, none⟩) hbw2] at d2
        rw [← hbel.cell (p := ⟨b2, o2 + k * 5 + 3, none⟩) hbw2] at d3
        rw [← hbel.cell (p := ⟨b2, o2 + k * 5 + 4, none⟩) hbw2] at d4
        have HNk : Hid (eAt L k = eAt M k → ∀ j, j < k + 1 → eAt L j = eAt M j) := fun h j hj => by
          by_cases e : j = k
          · rw [e]; exact h
          · exact HA.out j (by omega)
        have HNo : Hid (eAt L k ≠ eAt M k → L ≠ M) := fun h e => h (by rw [e])
        generalize eAt L k = x at c0 c1 c2 c3 c4 HNk HNo
        generalize eAt M k = y at d0 d1 d2 d3 d4 HNk HNo
        have HBd := hide hbel.drew
        clear hbel
        have hrun : ∀ W : World, (Op.equalIn 10000 77 (.agg #[.int .i64 x.K, .string x.S, .int .i64 x.V.K, .int .i64 x.V.N, .string x.V.S]) (.agg #[.int .i64 y.K, .string y.S, .int .i64 y.V.K, .int .i64 y.V.N, .string y.V.S])).run Try.prog W = .ok (eqAb x y) W := fun W => eqA_run x y W 9995
        have HIff := hide (eqAb_iff x y)
        generalize eqAb x y = t at hrun HIff
        cases t
        · have HV := hide (HNo.out (fun e => Bool.noConfusion (HIff.out.2 e)))
          clear HNo HNk HIff
          go_wp2
          go_region_with (fail)
          all_goals
            go_wp2
            go_ret
            exact ⟨⟨false, rfl, fun h => Bool.noConfusion h, fun e => absurd e HV.out⟩, HBd.out⟩
        · have HV := hide (HNk.out (HIff.out.1 rfl))
          clear HNo HNk HIff
          go_wp2
          go_region_with (fail)
          all_goals
            go_wp2
            go_roundw
            case rel => exact ⟨k + 1, by omega, by go_num, HV.out, HBd.out⟩
            case measure => simp [intOf]; omega
      · have HV : Hid (L = M) := eq_ext (by rw [HZ.out, HY.out]) (fun i hi => HA.out i (by rw [HZ.out] at hi; omega))
        go_wp2
        go_ret
        exact ⟨⟨true, rfl, fun _ => HV.out, fun _ => rfl⟩, hbel⟩
  · have q1 : ((n : Int) != (m : Int)) = true := by simpa using (fun h : (n : Int) = (m : Int) => hnm (by omega))
    have HV : Hid (L ≠ M) := fun e => hnm (by rw [← hz, ← hy, e])
    go_enter Try.func63, Try.ntmps63
    go_wp2
    go_ret
    exact ⟨⟨false, rfl, fun h => Bool.noConfusion h, fun e => absurd e HV.out⟩, Below.refl _ _⟩

end Go.Proofs.Ytcfhpcbkdpgboaa
