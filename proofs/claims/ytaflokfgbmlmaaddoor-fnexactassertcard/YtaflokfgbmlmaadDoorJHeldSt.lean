/-
  The contracts of the laws' own look at marked items and stores: the marks are there.
-/
import Derived.Test.YtaflokfgbmlmaadDoorJMarkSx
import Derived.Test.YtaflokfgbmlmaadDoorJHeldF
namespace Go.Proofs.YtaflokfgbmlmaadDoor
open Go.RowKit
set_option linter.unusedVariables false

theorem heldVals_i (a : Option Addr) (cap : Nat) (x : Int) (k0 n : Nat) (w : World) (hx : x = (k0 : Int)) (hr : RdV w a (marksV k0 n)) (hn : n ≤ 1048580) (hk : k0 ≤ 33554500) :
    Calls Tryd.prog 73 #[.slice a n cap, .int .i64 x] w fun e w' => (∃ r : Nat, e = .returned (.int .i64 (r : Int)) ∧ r = k0 + 3 * n) ∧ Below w.heap.size w w' := by
  subst hx
  refine (heldValS_any a cap k0 n w hr hn hk).mono ?_
  rintro e w' ⟨rfl, hb⟩
  exact ⟨⟨_, rfl, rfl⟩, hb⟩

set_option maxRecDepth 100000 in
set_option maxHeartbeats 3200000 in
theorem heldItemS_any (a : Option Addr) (cap k0 n : Nat) (K : List It) (w : World) (hr : RdI w a (partJ K k0 K.length)) (hK : K.length = n) (hn : n ≤ 1048580) (hl : ∀ i, i < K.length → (iAt K i).L.length ≤ 1048580) (hk : k0 + totI K K.length ≤ 33554000) :
    Calls Tryd.prog 48 #[.slice a n cap, .int .i64 (k0 : Int)] w fun e w' =>
      (∃ r : Nat, e = .returned (.int .i64 (r : Int)) ∧ r = k0 + totI K K.length) ∧ Below w.heap.size w w' := by
  have HN := hide hK
  have HKk := hide hk
  have HL := hide hl
  clear hK hk hl
  go_enter Tryd.func48, Tryd.ntmps48
  go_wp2
  go_loopw [1, 5] (fun kk i wr => ∃ (j m : Nat), j ≤ n ∧ i = .int .i64 j ∧ m = k0 + totI K j ∧ kk = .int .i64 (m : Int) ∧ Below w.heap.size w wr) (fun _ i _ => n - (intOf i).toNat)
  case atStart => exact ⟨0, k0, Nat.zero_le _, rfl, by rw [totI_zero]; rfl, rfl, Below.refl _ _⟩
  case round =>
    obtain ⟨j, m, hj, rfl, hm, rfl, hbel⟩ := hrel
    have HM := hide hm
    have hm2 : m ≤ 33554000 := by
      have h1 := totI_le (K := K) (k := j) (by rw [HN.out]; exact hj)
      have h2 := HKk.out
      omega
    clear hm
    by_cases hlt : j < n
    · have hjK : j < K.length := by rw [HN.out]; exact hlt
      obtain ⟨b, off, hab, hbw, hc⟩ := (hr.below hbel).open (by rw [partJ_length, HN.out]; omega)
      obtain ⟨c0, c1, c2, hv⟩ := hc j (by rw [partJ_length]; exact hjK)
      clear hc
      subst hab
      have hpj : iAt (partJ K k0 K.length) j = markI K k0 j := by rw [partJ_at hjK, if_pos hjK]
      rw [hpj] at c0 c1 c2 hv
      have e1 : (markI K k0 j).id = (m : Int) := by rw [HM.out]; rfl
      have e2 : (markI K k0 j).kd = markT (m + 1) := by rw [HM.out]; rfl
      have e3 : (markI K k0 j).L = marksV (m + 2) (iAt K j).L.length := by rw [HM.out]; rfl
      have e4 : (markI K k0 j).L.length = (iAt K j).L.length := by rw [e3, marksV_length]
      rw [e1] at c0
      rw [e2] at c1
      rw [e4] at c2
      rw [e3] at hv
      have HLj := hide (HL.out j hjK)
      have HStep := hide (totI_step hjK)
      generalize (markI K k0 j).a = va at c2 hv
      generalize (markI K k0 j).cap = vc at c2
      generalize (iAt K j).L.length = ln at c2 hv HLj HStep
      clear e1 e2 e3 e4 hpj
      have k1 : ((m : Int) != (m : Int)) = false := by simp
      have k3 : ((markT (m + 1)).toList == (markT (m + 1)).toList) = true := by simp
      have HB := hide hbel
      have HV := hide hv
      have HC2 := hide c2
      go_wp2_with fail
      go_region_held3 (fun W => W.cell? ⟨b, off + j * 3 + 1, none⟩ = some (.string (markT (m + 1)))) (first | exact c1 | exact kept1 (below_dr hb2) c1)
        (first | (go_at_call 72; refine (markText_i ((m : Int) + 1) (m + 1) _ (by omega) (by omega)).mono ?_; rintro e w2 ⟨rfl, hb2⟩))
      all_goals
        have hb2' : Below wr.heap.size wr w2 := below_dr hb2
        have B2 : Below w.heap.size w w2 := HB.out.trans (hb2'.mono HB.out.size)
        have c2' := kept1 hb2' HC2.out
        have hv2 := HV.out.below hb2'
        clear hb2 hb2' c0 c1 c2 hv
        go_wp2_with fail
        refine (heldVals_i va vc ((m : Int) + 1 + 1) (m + 2) ln _ (by omega) hv2 HLj.out (by omega)).mono ?_
        rintro e w3 ⟨⟨r, rfl, hr3⟩, hb3⟩
        have HR3 := hide hr3
        have B3 : Below w.heap.size w w3 := B2.trans (hb3.mono B2.size)
        have kr : ¬ ((r : Int) < 0) := by omega
        clear hr3 hb3 B2 c2' hv2
        go_wp2
        go_roundw
        case rel => exact ⟨j + 1, r, by omega, by go_num, by rw [HStep.out, HR3.out, HM.out]; omega, rfl, B3⟩
        case measure => simp [intOf]; omega
    · obtain rfl : j = n := by omega
      have HE : Hid (m = k0 + totI K K.length) := by unfold Hid; rw [HM.out, HN.out]
      go_wp2
      go_ret
      exact ⟨⟨m, rfl, HE.out⟩, hbel⟩

set_option maxRecDepth 100000 in
set_option maxHeartbeats 1600000 in
theorem heldStore_any (a : Option Addr) (cap k0 n : Nat) (nx : Int) (K : List It) (w : World) (hr : RdI w a (partJ K k0 K.length)) (hK : K.length = n) (hn : n ≤ 1048580) (hl : ∀ i, i < K.length → (iAt K i).L.length ≤ 1048580) (hk : k0 + totI K K.length ≤ 33554000) :
    Calls Tryd.prog 19 #[.agg #[.slice a n cap, .int .i64 nx], .int .i64 (k0 : Int)] w fun e w' =>
      (∃ r : Nat, e = .returned (.int .i64 (r : Int)) ∧ r = k0 + totI K K.length) ∧ Below w.heap.size w w' := by
  have b0 := below_al w (.cells #[.slice a n cap, .int .i64 nx] 29)
  go_enter Tryd.func19, Tryd.ntmps19
  go_wp2_with fail
  refine (heldItemS_any a cap k0 n K _ (hr.below b0) hK hn hl hk).mono ?_
  rintro e w1 ⟨⟨r, rfl, hr1⟩, hb1⟩
  have HR := hide hr1
  have B1 : Below w.heap.size w w1 := b0.trans (hb1.mono b0.size)
  have kr : ¬ ((r : Int) < 0) := by omega
  clear hr1 hb1 b0
  go_wp2
  go_ret
  exact ⟨⟨r, rfl, HR.out⟩, B1⟩
end Go.Proofs.YtaflokfgbmlmaadDoor
