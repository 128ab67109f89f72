/-
  The contracts of the laws' own look at marked facts: heldFact tells that the marks are there; and markFact of a row that may be nil.
-/
import Derived.Test.YtbellpalomiokaaJMarkF
import Derived.Deep.RegionHeld3
namespace Go.Proofs.Ytbellpalomiokaa
open Go.RowKit
set_option linter.unusedVariables false

theorem marksV_at {k n i : Nat} (h : i < n) : vAt (marksV k n) i = markV (k + 3 * i) := by
  rw [vAt_in (by rw [marksV_length]; exact h)]; simp [marksV]

theorem kept1 {W w' : World} {p : Addr} {v : Value} (hb : Below W.heap.size W w') (h : W.cell? p = some v) : w'.cell? p = some v := by rw [hb.cell (World.block_lt_of_cell? W _ h)]; exact h

set_option maxRecDepth 100000 in
set_option maxHeartbeats 1600000 in
theorem heldValS_any (a : Option Addr) (cap k0 n : Nat) (w : World) (hr : RdV w a (marksV k0 n)) (hn : n ≤ 1048580) (hk : k0 ≤ 33554500) :
    Calls Try.prog 33 #[.slice a n cap, .int .i64 (k0 : Int)] w fun e w' =>
      e = .returned (.int .i64 ((k0 + 3 * n : Nat) : Int)) ∧ Below w.heap.size w w' := by
  go_enter Try.func33, Try.ntmps33
  go_wp2
  go_loopw [1, 5] (fun kk i wr => ∃ j : Nat, j ≤ n ∧ i = .int .i64 j ∧ (∃ m : Nat, m = k0 + 3 * j ∧ kk = .int .i64 (m : Int)) ∧ Below w.heap.size w wr) (fun _ i _ => n - (intOf i).toNat)
  case atStart => exact ⟨0, Nat.zero_le _, rfl, ⟨k0, rfl, rfl⟩, Below.refl _ _⟩
  case round =>
    obtain ⟨j, hj, rfl, ⟨m, hm, rfl⟩, hbel⟩ := hrel
    have HM := hide hm
    have hm2 : m ≤ 40000000 := by omega
    clear hm
    by_cases hlt : j < n
    · obtain ⟨b, off, hab, hbw, hc⟩ := hr.open (by rw [marksV_length]; omega)
      obtain ⟨c0, c1, c2⟩ := hc j (by rw [marksV_length]; exact hlt)
      clear hc
      subst hab
      rw [← hbel.cell (p := ⟨b, off + j * 3, none⟩) hbw] at c0
      rw [← hbel.cell (p := ⟨b, off + j * 3 + 1, none⟩) hbw] at c1
      rw [← hbel.cell (p := ⟨b, off + j * 3 + 2, none⟩) hbw] at c2
      have e1 : (vAt (marksV k0 n) j).K = (m : Int) := by rw [marksV_at hlt, ← HM.out]; rfl
      have e2 : (vAt (marksV k0 n) j).N = (m : Int) + 1 := by rw [marksV_at hlt, ← HM.out]; show ((m + 1 : Nat) : Int) = _; omega
      have e3 : (vAt (marksV k0 n) j).S = markT (m + 2) := by rw [marksV_at hlt, ← HM.out]; rfl
      rw [e1] at c0
      rw [e2] at c1
      rw [e3] at c2
      clear e1 e2 e3
      have k1 : ((m : Int) != (m : Int)) = false := by simp
      have k2 : ((m : Int) + 1 != (m : Int) + 1) = false := by simp
      have k3 : ((markT (m + 2)).toList == (markT (m + 2)).toList) = true := by simp
      have HB := hide hbel
      go_wp2_with fail
      go_region_held3 (fun W => W.cell? ⟨b, off + j * 3 + 2, none⟩ = some (.string (markT (m + 2)))) (first | exact c2 | exact kept1 (below_dr hb2) c2)
        (first | (go_at_call 65; refine (markText_i ((m : Int) + 1 + 1) (m + 2) _ (by omega) (by omega)).mono ?_; rintro e w2 ⟨rfl, hb2⟩))
      all_goals
        have B2 : Below w.heap.size w w2 := HB.out.drew.trans (hb2.mono HB.out.size)
        go_wp2
        go_roundw
        case rel => exact ⟨j + 1, by omega, by go_num, ⟨m + 3, by rw [HM.out]; omega, by go_num⟩, B2⟩
        case measure => simp [intOf]; omega
    · obtain rfl : j = n := by omega
      go_wp2
      go_ret
      exact ⟨by rw [HM.out]; rfl, hbel⟩

end Go.Proofs.Ytbellpalomiokaa
