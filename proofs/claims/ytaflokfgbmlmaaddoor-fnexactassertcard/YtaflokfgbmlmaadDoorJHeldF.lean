/-
  The contracts of the laws' own look at marked facts: heldFact tells that the marks are there; and markFact of a row that may be nil.
-/
import Derived.Test.YtaflokfgbmlmaadDoorJMarkF
import Derived.Deep.RegionHeld3
namespace Go.Proofs.YtaflokfgbmlmaadDoor
open Go.RowKit
set_option linter.unusedVariables false

theorem marksV_at {k n i : Nat} (h : i < n) : vAt (marksV k n) i = markV (k + 3 * i) := by
  rw [vAt_in (by rw [marksV_length]; exact h)]; simp [marksV]

theorem kept1 {W w' : World} {p : Addr} {v : Value} (hb : Below W.heap.size W w') (h : W.cell? p = some v) : w'.cell? p = some v := by rw [hb.cell (World.block_lt_of_cell? W _ h)]; exact h

set_option maxRecDepth 100000 in
set_option maxHeartbeats 1600000 in
theorem heldValS_any (a : Option Addr) (cap k0 n : Nat) (w : World) (hr : RdV w a (marksV k0 n)) (hn : n ≤ 1048580) (hk : k0 ≤ 33554500) :
    Calls Tryd.prog 73 #[.slice a n cap, .int .i64 (k0 : Int)] w fun e w' =>
      e = .returned (.int .i64 ((k0 + 3 * n : Nat) : Int)) ∧ Below w.heap.size w w' := by
  go_enter Tryd.func73, Tryd.ntmps73
  go_wp2
  go_loopw [1, 5] (fun kk i wr => ∃ j : Nat, j ≤ n ∧ i = .int .i64 j ∧ (∃ m : Nat, m = k0 + 3 * j ∧ kk = .int .i64 (m : Int)) ∧ Below w.heap.size w wr) (fun _ i _ => n - (intOf i).toNat)
  case atStart => exact ⟨0, Nat.zero_le _, rfl, ⟨k0, rfl, rfl⟩, Below.refl _ _⟩
  case round =>
    obtain ⟨j, hj, rfl, ⟨m, hm, rfl⟩, hbel⟩ := hrel
    have HM := hide hm
    have hm2 : m ≤ 40000000 := by omega
    clear hm
    by_cases hlt : j < n
    · obtain ⟨b, off, hab, hbw, hc⟩ := hr.open (by rw [marksV_length]; omega)
      obtain ⟨c0, c1, c2⟩ := hc j (by rw [marksV_length]; exact hlt)
      clear hc
      subst hab
      rw [← hbel.cell (p := ⟨b, off + j * 3, none⟩) hbw] at c0
      rw [← hbel.cell (p := ⟨b, off + j * 3 + 1, none⟩) hbw] at c1
      rw [← hbel.cell (p := ⟨b, off + j * 3 + 2, none⟩) hbw] at c2
      have e1 : (vAt (marksV k0 n) j).K = (m : Int) := by rw [marksV_at hlt, ← HM.out]; rfl
      have e2 : (vAt (marksV k0 n) j).N = (m : Int) + 1 := by rw [marksV_at hlt, ← HM.out]; show ((m + 1 : Nat) : Int) = _; omega
      have e3 : (vAt (marksV k0 n) j).S = markT (m + 2) := by rw [marksV_at hlt, ← HM.out]; rfl
      rw [e1] at c0
      rw [e2] at c1
      rw [e3] at c2
      clear e1 e2 e3
      have k1 : ((m : Int) != (m : Int)) = false := by simp
      have k2 : ((m : Int) + 1 != (m : Int) + 1) = false := by simp
      have k3 : ((markT (m + 2)).toList == (markT (m + 2)).toList) = true := by simp
      have HB := hide hbel
      go_wp2_with fail
      go_region_held3 (fun W => W.cell? ⟨b, off + j * 3 + 2, none⟩ = some (.string (markT (m + 2)))) (first | exact c2 | exact kept1 (below_dr hb2) c2)
        (first | (go_at_call 72; refine (markText_i ((m : Int) + 1 + 1) (m + 2) _ (by omega) (by omega)).mono ?_; rintro e w2 ⟨rfl, hb2⟩))
      all_goals
        have B2 : Below w.heap.size w w2 := HB.out.drew.trans (hb2.mono HB.out.size)
        go_wp2
        go_roundw
        case rel => exact ⟨j + 1, by omega, by go_num, ⟨m + 3, by rw [HM.out]; omega, by go_num⟩, B2⟩
        case measure => simp [intOf]; omega
    · obtain rfl : j = n := by omega
      go_wp2
      go_ret
      exact ⟨by rw [HM.out]; rfl, hbel⟩

set_option maxRecDepth 100000 in
set_option maxHeartbeats 1600000 in
theorem markFact_nil (kd : ByteArray) (k0 : Nat) (w : World) (hk : k0 ≤ 33554500) :
    Calls Tryd.prog 18 #[.agg #[.string kd, .slice none 0 0], .int .i64 (k0 : Int)] w fun e w' =>
      e = .returned (.int .i64 (k0 : Int)) ∧ Below w.heap.size w w' := by
  have HC : Hid (∀ W : World, Calls Tryd.prog 47 #[.slice none 0 0, .int .i64 (k0 : Int)] W fun e w' => e = .returned (.int .i64 (k0 : Int)) ∧ w' = W) := by
    intro W
    go_enter Tryd.func47, Tryd.ntmps47
    go_wp2
    go_rounds 1
    go_ret
    exact ⟨rfl, rfl⟩
  have b0 := below_al w (.cells #[.string kd, .slice none 0 0] 41)
  go_enter Tryd.func18, Tryd.ntmps18
  go_wp2_with fail
  refine (HC.out _).mono ?_
  rintro e w1 ⟨rfl, rfl⟩
  go_wp2
  go_ret
  exact ⟨rfl, b0⟩
/-- a row of values, nil or not, is marked -/
theorem markFact_row (kd : ByteArray) (base : Nat) (v : Value) (L : List V3) (w : World) (ho : w.ownsRow base 85 3 v L.length (cells3 L)) (hn : L.length ≤ 1048580) :
    Calls Tryd.prog 18 #[.agg #[.string kd, v], .int .i64 1] w fun e w' =>
      (∃ r : Nat, e = .returned (.int .i64 (r : Int)) ∧ r = 1 + 3 * L.length) ∧ w'.ownsRow base 85 3 v L.length (cells3 (marksV 1 L.length)) ∧ (∀ q, q < w.heap.size → v.ownBlock ≠ some q → w'.heap[q]? = w.heap[q]?) ∧ (base ≤ w.heap.size → Below base w w') := by
  rcases ho.2 with ⟨rfl, h0⟩ | ⟨g, cap, cur, rfl, hb, rest⟩
  · refine (markFact_nil kd 1 w (by omega)).mono fun e w' h => ⟨⟨1, h.1, by omega⟩, ?_, fun q hq _ => h.2.block q hq, fun hB => h.2.mono hB⟩
    have hL : L = [] := List.eq_nil_of_length_eq_zero h0
    subst hL
    exact World.ownsRow_nil _ _ _ _
  · refine (markFact_any kd g cap 1 L w (OwnV.of ho) hn (by omega)).mono fun e w' h => ⟨h.1, ?_, fun q hq hne => h.2.2.1 q hq (fun e => hne (by rw [e]; rfl)), fun _ => h.2.2.2.mono hb⟩
    have := h.2.1
    refine ⟨by have := this.1; rw [marksV_length] at this; exact this, ?_⟩
    rcases this.2 with ⟨h1, _⟩ | ⟨g', cap', cur', h1, _, rest'⟩
    · simp at h1
    · rw [marksV_length] at h1 rest'
      simp only [Value.slice.injEq, Option.some.injEq, Addr.mk.injEq, and_true, true_and] at h1
      obtain ⟨rfl, rfl⟩ := h1
      exact .inr ⟨g, cap, cur', rfl, hb, rest'⟩
end Go.Proofs.YtaflokfgbmlmaadDoor
