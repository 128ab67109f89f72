/-
  What the functions on a pattern's rightness answer: patB, the tested one and the model alike.
-/
import Derived.Test.YtaflokfgbmlmaacDoorJoined2
namespace Go.Proofs.YtaflokfgbmlmaacDoor
open Go.RowKit
set_option linter.unusedVariables false

def patB (kd : ByteArray) (L : List A5) : Bool := nameB kd && decide (L.length ≤ 5) && L.all A5.ok
theorem allA_no {L : List A5} {k : Nat} (hk : k < L.length) (h : argB (eAt L k).K (eAt L k).S (eAt L k).V = false) : L.all A5.ok = false := by
  rw [Bool.eq_false_iff]
  intro ha
  have := List.all_eq_true.1 ha L[k] (List.getElem_mem hk)
  rw [← eAt_in hk] at this
  unfold A5.ok at this
  rw [h] at this; cases this
theorem allA_yes {L : List A5} (h : ∀ k, k < L.length → argB (eAt L k).K (eAt L k).S (eAt L k).V = true) : L.all A5.ok = true := by
  rw [List.all_eq_true]
  intro v hv
  obtain ⟨k, hk, rfl⟩ := List.getElem_of_mem hv
  rw [← eAt_in hk]; exact h k hk

set_option maxRecDepth 100000 in
set_option maxHeartbeats 1600000 in
theorem specPatOk_any (kd : ByteArray) (a : Option Addr) (cap : Nat) (L : List A5) (nt : Bool) (w : World) (hkd : kd.size ≤ maxLen) (hr : RdArg w a L) (hs : ∀ x ∈ L, x.fits) (hm : L.length ≤ 1048580) :
    Calls Tryd.prog 30 #[.agg #[.string kd, .slice a L.length cap, .bool nt]] w fun e w' =>
      e = .returned (.bool (patB kd L)) ∧ Below w.heap.size w w' := by
  have b0 := below_al w (.cells #[.string kd, .slice a L.length cap, .bool nt] 53)
  have hP := boxk_new w #[.string kd, .slice a L.length cap, .bool nt] 53
  have HF : Hid (patB kd L = (nameB kd && decide (L.length ≤ 5) && L.all A5.ok)) := rfl
  obtain ⟨n, hN⟩ : ∃ n, n = L.length := ⟨_, rfl⟩
  rw [← hN] at hm b0 hP HF ⊢
  have HN := hide hN
  have HS := hide hs
  have HP := hide hP
  clear hN hs hP
  go_enter Tryd.func30, Tryd.ntmps30
  go_wp2
  go_loopw [3] (fun i wr => ∃ (k : Nat), k ≤ n ∧ i = .int .i64 k ∧ (∀ j, j < k → argB (eAt L j).K (eAt L j).S (eAt L j).V = true) ∧ Below (w.alloc (.cells #[.string kd, .slice a n cap, .bool nt] 53)).heap.size (w.alloc (.cells #[.string kd, .slice a n cap, .bool nt] 53)) wr) (fun i _ => n - (intOf i).toNat)
  case atStart => exact ⟨0, Nat.zero_le _, rfl, fun j hj => absurd hj (Nat.not_lt_zero _), Below.refl _ _⟩
  case round =>
    obtain ⟨k, hk, rfl, hall, hbel⟩ := hrel
    have HA := hide hall
    clear hall
    have HP2 := hide (box_below HP.out hbel (by simp))
    have p0 := boxk_cell HP2.out 0 _ rfl
    have p1 := boxk_cell HP2.out 1 _ rfl
    by_cases hlt : k < n
    · obtain ⟨b, off, hab, hbw, hc⟩ := RdArg.cells (hr.below b0) (by rw [← HN.out]; omega)
      obtain ⟨c0, c1, c2, c3, c4⟩ := hc k (by rw [← HN.out]; exact hlt)
      clear hc
      subst hab
      rw [← hbel.cell (p := ⟨b, off + k * 5, none⟩) hbw] at c0
      rw [← hbel.cell (p := ⟨b, off + k * 5 + 1, none⟩) hbw] at c1
      rw [← hbel.cell (p := ⟨b, off + k * 5 + 2, none⟩) hbw] at c2
      rw [← hbel.cell (p := ⟨b, off + k * 5 + 3, none⟩) hbw] at c3
      rw [← hbel.cell (p := ⟨b, off + k * 5 + 4, none⟩) hbw] at c4
      have hS : (eAt L k).fits := by rw [eAt_in (by rw [← HN.out]; exact hlt)]; exact HS.out _ (List.getElem_mem _)
      obtain ⟨hS0, hS1⟩ := hS
      go_wp2_with fail
      refine (specArgOk_any _ _ _ _ _ _ hS0 hS1).mono ?_
      rintro e w2 ⟨rfl, hb2⟩
      have hbel2 := hbel.trans (hb2.mono hbel.size)
      clear hb2 hS0 hS1 c0 c1 c2 c3 c4 hbel p0 p1 HP2
      have hBe := b0.trans (hbel2.mono b0.size)
      cases hv : argB (eAt L k).K (eAt L k).S (eAt L k).V
      · have HV := hide (allA_no (by rw [← HN.out]; exact hlt) hv)
        clear hv
        go_wp2
        go_ret
        exact ⟨ret_bool (by rw [HF.out, HV.out, Bool.and_false]), hBe⟩
      · have HV := hide hv
        clear hv
        go_wp2
        go_roundw
        case rel => exact ⟨k + 1, by omega, by go_num, fun j hj => by
            by_cases hjk : j = k
            · rw [hjk]; exact HV.out
            · exact HA.out j (by omega), hbel2⟩
        case measure => simp [intOf]; omega
    · have HV : Hid (L.all A5.ok = true) := allA_yes (fun j hj => HA.out j (by rw [← HN.out] at hj; omega))
      have hBe := b0.trans (hbel.mono b0.size)
      have HD : Hid (decide ((n : Int) ≤ 5) = decide (n ≤ 5)) := by unfold Hid; exact decide_eq_decide.2 (by omega)
      rw [HV.out, Bool.and_true] at HF
      clear HP2
      cases hn : nameB kd
      · rw [hn] at HF
        go_wp2_with (go_at_call 52; refine (specNameOk_any _ _ hkd).mono ?_; rintro e w' ⟨rfl, rfl⟩; rw [hn])
        go_ret
        exact ⟨ret_bool HF.out.symm, hBe⟩
      · rw [hn] at HF
        go_wp2_with (go_at_call 52; refine (specNameOk_any _ _ hkd).mono ?_; rintro e w' ⟨rfl, rfl⟩; rw [hn])
        go_ret
        exact ⟨ret_bool (by rw [HF.out, Bool.true_and]; exact HD.out), hBe⟩

set_option maxRecDepth 100000 in
set_option maxHeartbeats 1600000 in
theorem listA_any (a : Option Addr) (cap : Nat) (L : List A5) (w : World) (hr : RdArg w a L) (hs : ∀ x ∈ L, x.fits) (hm : L.length ≤ 1048580) :
    Calls Tryd.prog 112 #[.slice a L.length cap, .int .i64 0, .int .i64 5, .func (.func 31) #[] #[]] w fun e w' =>
      e = .returned (.bool (decide (L.length ≤ 5) && L.all A5.ok)) ∧ Below w.heap.size w w' := by
  obtain ⟨n, hN⟩ : ∃ n, n = L.length := ⟨_, rfl⟩
  rw [← hN] at hm ⊢
  have HN := hide hN
  have HS := hide hs
  clear hN hs
  by_cases h5 : n ≤ 5
  · have HF : Hid ((decide (n ≤ 5) && L.all A5.ok) = L.all A5.ok) := by unfold Hid; rw [decide_eq_true h5]; rfl
    go_enter Tryd.func112, Tryd.ntmps112
    go_wp2
    go_loopw [23] (fun i wr => ∃ (k : Nat), k ≤ n ∧ i = .int .i64 k ∧ (∀ j, j < k → argB (eAt L j).K (eAt L j).S (eAt L j).V = true) ∧ Below w.heap.size w wr) (fun i _ => n - (intOf i).toNat)
    case atStart => exact ⟨0, Nat.zero_le _, rfl, fun j hj => absurd hj (Nat.not_lt_zero _), Below.refl _ _⟩
    case round =>
      obtain ⟨k, hk, rfl, hall, hbel⟩ := hrel
      have HA := hide hall
      clear hall
      by_cases hlt : k < n
      · obtain ⟨b, off, hab, hbw, hc⟩ := RdArg.cells hr (by rw [← HN.out]; omega)
        obtain ⟨c0, c1, c2, c3, c4⟩ := hc k (by rw [← HN.out]; exact hlt)
        clear hc
        subst hab
        rw [← hbel.cell (p := ⟨b, off + k * 5, none⟩) hbw] at c0
        rw [← hbel.cell (p := ⟨b, off + k * 5 + 1, none⟩) hbw] at c1
        rw [← hbel.cell (p := ⟨b, off + k * 5 + 2, none⟩) hbw] at c2
        rw [← hbel.cell (p := ⟨b, off + k * 5 + 3, none⟩) hbw] at c3
        rw [← hbel.cell (p := ⟨b, off + k * 5 + 4, none⟩) hbw] at c4
        have hS : (eAt L k).fits := by rw [eAt_in (by rw [← HN.out]; exact hlt)]; exact HS.out _ (List.getElem_mem _)
        obtain ⟨hS0, hS1⟩ := hS
        have hbel1 := hbel.alloc hbel.size (.cells #[.int .i64 (eAt L k).K, .string (eAt L k).S, .int .i64 (eAt L k).V.K, .int .i64 (eAt L k).V.N, .string (eAt L k).V.S] 39)
        go_wp2_with fail
        refine (implArgOk_any _ _ _ _ _ _ hS0 hS1).mono ?_
        rintro e w2 ⟨rfl, hb2⟩
        have hbel2 : Below w.heap.size w w2 := hbel1.trans (hb2.mono hbel1.size)
        clear hb2 hS0 hS1 c0 c1 c2 c3 c4 hbel hbel1
        cases hv : argB (eAt L k).K (eAt L k).S (eAt L k).V
        · have HV := hide (allA_no (by rw [← HN.out]; exact hlt) hv)
          clear hv
          go_wp2
          go_ret
          exact ⟨ret_bool (by rw [HF.out, HV.out]), hbel2⟩
        · have HV := hide hv
          clear hv
          go_wp2
          go_roundw
          case rel => exact ⟨k + 1, by omega, by go_num, fun j hj => by
              by_cases hjk : j = k
              · rw [hjk]; exact HV.out
              · exact HA.out j (by omega), hbel2⟩
          case measure => simp [intOf]; omega
      · have HV : Hid (L.all A5.ok = true) := allA_yes (fun j hj => HA.out j (by rw [← HN.out] at hj; omega))
        go_wp2
        go_ret
        exact ⟨ret_bool (by rw [HF.out, HV.out]), hbel⟩
  · have HF : Hid ((decide (n ≤ 5) && L.all A5.ok) = false) := by unfold Hid; rw [decide_eq_false h5]; rfl
    have hn : (5 : Int) < (n : Int) := by omega
    go_enter Tryd.func112, Tryd.ntmps112
    go_wp2
    go_ret
    exact ⟨ret_bool HF.out.symm, Below.refl _ _⟩

set_option maxRecDepth 100000 in
set_option maxHeartbeats 1600000 in
theorem namedA_any (kd : ByteArray) (a : Option Addr) (cap : Nat) (L : List A5) (w : World) (hkd : kd.size ≤ maxLen) (hr : RdArg w a L) (hs : ∀ x ∈ L, x.fits) (hm : L.length ≤ 1048580) :
    Calls Tryd.prog 70 #[.string kd, .slice a L.length cap, .func (.func 31) #[] #[]] w fun e w' =>
      e = .returned (.bool (patB kd L)) ∧ Below w.heap.size w w' := by
  have HF : Hid (patB kd L = (nameB kd && (decide (L.length ≤ 5) && L.all A5.ok))) := by unfold Hid patB; rw [Bool.and_assoc]
  cases hn : nameB kd
  · rw [hn] at HF
    go_enter Tryd.func70, Tryd.ntmps70
    go_wp2_with (go_at_call 51; refine (implNameOk_any _ _ hkd).mono ?_; rintro e w' ⟨rfl, rfl⟩)
    go_ret
    exact ⟨ret_bool HF.out.symm, Below.refl _ _⟩
  · rw [hn] at HF
    go_enter Tryd.func70, Tryd.ntmps70
    go_wp2_with fail
    refine (implNameOk_any _ _ hkd).mono ?_
    rintro e w' ⟨rfl, rfl⟩
    go_wp2_with fail
    refine (listA_any a cap L _ hr hs hm).mono ?_
    rintro e w1 ⟨rfl, hb⟩
    generalize (decide (L.length ≤ 5) && L.all A5.ok) = r at HF ⊢
    go_wp2
    go_ret
    exact ⟨ret_bool (by rw [HF.out]; rfl), hb⟩

set_option maxRecDepth 100000 in
set_option maxHeartbeats 1600000 in
theorem implPatOk_any (kd : ByteArray) (a : Option Addr) (cap : Nat) (L : List A5) (nt : Bool) (w : World) (hkd : kd.size ≤ maxLen) (hr : RdArg w a L) (hs : ∀ x ∈ L, x.fits) (hm : L.length ≤ 1048580) :
    Calls Tryd.prog 29 #[.agg #[.string kd, .slice a L.length cap, .bool nt]] w fun e w' =>
      e = .returned (.bool (patB kd L)) ∧ Below w.heap.size w w' := by
  have b0 := below_al w (.cells #[.string kd, .slice a L.length cap, .bool nt] 53)
  go_enter Tryd.func29, Tryd.ntmps29
  go_wp2_with fail
  refine (namedA_any kd a cap L _ hkd (hr.below b0) hs hm).mono ?_
  rintro e w1 ⟨rfl, hb⟩
  have hB : Below w.heap.size w w1 := b0.trans (hb.mono b0.size)
  go_wp2
  go_ret
  exact ⟨rfl, hB⟩
end Go.Proofs.YtaflokfgbmlmaacDoor
