/-
  What both BindOfs answer: bindA.
-/
import Derived.Test.YtaflokfgbmlmaabBindP
import Derived.Test.YtaflokfgbmlmaabClone
namespace Go.Proofs.Ytaflokfgbmlmaab
open Go.RowKit
set_option linter.unusedVariables false

theorem beq_ne {a b : ByteArray} (h : a ≠ b) : (a.toList == b.toList) = false := by
  simp only [beq_eq_false_iff_ne, ne_eq]
  exact fun e => h (toList_inj e)

set_option maxRecDepth 100000 in
set_option maxHeartbeats 1600000 in
theorem specBindOf_any (a : Option Addr) (cap : Nat) (L : List B4) (nm : ByteArray) (w : World) (hr : RdBind w a L) (hm : L.length ≤ 2097152) :
    Calls Try.prog 67 #[.slice a L.length cap, .string nm] w fun e w' => e = .returned (bindA (bindO L nm)) ∧ Below w.heap.size w w' := by
  obtain ⟨n, hN⟩ : ∃ n, n = L.length := ⟨_, rfl⟩
  rw [← hN] at hm ⊢
  have HN := hide hN
  clear hN
  have b0 := below_al w (.cells #[.int .i64 0, .int .i64 0, .string ⟨#[]⟩] 63)
  have HR := hide (boxk_new w #[.int .i64 0, .int .i64 0, .string ⟨#[]⟩] 63)
  have r1 := hr.below b0
  go_enter Try.func67, Try.ntmps67
  go_wp2
  generalize w.alloc (.cells #[.int .i64 0, .int .i64 0, .string ⟨#[]⟩] 63) = w0 at b0 HR r1
  obtain ⟨r0, rr1, rr2, rf0, rf1, rf2⟩ := box_cell HR.out
  go_loop [6] (fun i => ∃ (k : Nat), k ≤ n ∧ i = .int .i64 k ∧ (∀ j, j < k → (eAt L j).N ≠ nm)) (fun i => n - (intOf i).toNat)
  case atStart => exact ⟨0, Nat.zero_le _, rfl, fun j hj => absurd hj (Nat.not_lt_zero _)⟩
  case round =>
    obtain ⟨k, hk, rfl, hall⟩ := hrel
    have HA := hide hall
    clear hall
    by_cases hlt : k < n
    · obtain ⟨b, off, hab, hbw, hc⟩ := RdBind.cells r1 (by rw [← HN.out]; omega)
      obtain ⟨c0, c1, c2, c3⟩ := hc k (by rw [← HN.out]; exact hlt)
      clear hc
      subst hab
      by_cases he : (eAt L k).N = nm
      · have HV := hide (bindO_at (by rw [← HN.out]; exact hlt) HA.out he)
        rw [he] at c0
        have k1 : (nm.toList == nm.toList) = true := by simp
        clear he
        go_wp2
        refine box_post HR.out (fun w4 h4 gr => ?_)
        obtain ⟨d0, d1, d2, -, -, -⟩ := box_cell h4
        exact bodyPost_ret (v := bindA (some (eAt L k).V)) (by simp [bindA, results, Try.results67, go_sem, d0, d1, d2]) rfl ⟨by rw [HV.out], below_set b0 gr (Nat.le_refl _)⟩
      · have k1 := beq_ne he
        have HE := hide he
        clear he
        go_wp2
        go_round
        case rel => exact ⟨k + 1, by omega, by go_num, fun j hj => by
            by_cases hjk : j = k
            · rw [hjk]; exact HE.out
            · exact HA.out j (by omega)⟩
        case measure => simp [intOf]; omega
    · have HV : Hid (bindO L nm = none) := bindO_none (fun j hj => HA.out j (by rw [← HN.out] at hj; omega))
      go_wp2
      refine box_post HR.out (fun w4 h4 gr => ?_)
      obtain ⟨d0, d1, d2, -, -, -⟩ := box_cell h4
      exact bodyPost_ret (v := bindA none) (by simp [bindA, results, Try.results67, go_sem, d0, d1, d2]) rfl ⟨by rw [HV.out], below_set b0 gr (Nat.le_refl _)⟩

set_option maxRecDepth 100000 in
set_option maxHeartbeats 1600000 in
theorem implBindOf_any (a : Option Addr) (cap : Nat) (L : List B4) (nm : ByteArray) (w : World) (hr : RdBind w a L) (hs : ∀ x ∈ L, x.small) (hm : L.length ≤ 2097152) :
    Calls Try.prog 30 #[.slice a L.length cap, .string nm] w fun e w' => e = .returned (bindA (bindO L nm)) ∧ Below w.heap.size w w' := by
  obtain ⟨n, hN⟩ : ∃ n, n = L.length := ⟨_, rfl⟩
  rw [← hN] at hm ⊢
  have HN := hide hN
  have HS := hide hs
  clear hN hs
  have b0 := below_al w (.cells #[.int .i64 0, .int .i64 0, .string ⟨#[]⟩] 63)
  have HR := hide (boxk_new w #[.int .i64 0, .int .i64 0, .string ⟨#[]⟩] 63)
  have r1 := hr.below b0
  go_enter Try.func30, Try.ntmps30
  go_wp2
  generalize hW : w.alloc (.cells #[.int .i64 0, .int .i64 0, .string ⟨#[]⟩] 63) = w0 at b0 HR r1
  have hq : w.heap.size < w0.heap.size := by rw [← hW]; simp
  clear hW hr
  go_loopw [10] (fun i wr => ∃ (k : Nat), k ≤ n ∧ i = .int .i64 k ∧ (∀ j, j < k → (eAt L j).N ≠ nm) ∧ Below w0.heap.size w0 wr) (fun i _ => n - (intOf i).toNat)
  case atStart => exact ⟨0, Nat.zero_le _, rfl, fun j hj => absurd hj (Nat.not_lt_zero _), Below.refl _ _⟩
  case round =>
    obtain ⟨k, hk, rfl, hall, hbel⟩ := hrel
    have HA := hide hall
    clear hall
    have hB : Below w.heap.size w wr := b0.trans (hbel.mono b0.size)
    have HR1 := hide (box_below HR.out hbel hq)
    by_cases hlt : k < n
    · obtain ⟨b, off, hab, hbw, hc⟩ := RdBind.cells r1 (by rw [← HN.out]; omega)
      obtain ⟨c0, c1, c2, c3⟩ := hc k (by rw [← HN.out]; exact hlt)
      clear hc
      subst hab
      rw [← hbel.cell (p := ⟨b, off + k * 4, none⟩) hbw] at c0
      rw [← hbel.cell (p := ⟨b, off + k * 4 + 1, none⟩) hbw] at c1
      rw [← hbel.cell (p := ⟨b, off + k * 4 + 2, none⟩) hbw] at c2
      rw [← hbel.cell (p := ⟨b, off + k * 4 + 3, none⟩) hbw] at c3
      have hS : (eAt L k).small := by rw [eAt_in (by rw [← HN.out]; exact hlt)]; exact HS.out _ (List.getElem_mem _)
      by_cases he : (eAt L k).N = nm
      · have HV := hide (bindO_at (by rw [← HN.out]; exact hlt) HA.out he)
        rw [he] at c0
        have k1 : (nm.toList == nm.toList) = true := by simp
        clear he
        go_wp2_with fail
        refine (copyVal_any _ _ _ _ (by have := hS.2; omega)).mono ?_
        rintro e w2 ⟨rfl, hb2⟩
        have hqr := hbel.size
        have bA := hB.alloc hB.size (.cells #[.string nm, .int .i64 (eAt L k).V.K, .int .i64 (eAt L k).V.N, .string (eAt L k).V.S] 104)
        have HR2 := hide (box_below (box_old HR1.out (by omega) (.cells #[.string nm, .int .i64 (eAt L k).V.K, .int .i64 (eAt L k).V.N, .string (eAt L k).V.S] 104)) hb2 (by simp; omega))
        have B2 := bA.trans (hb2.mono bA.size)
        obtain ⟨q0, q1, q2, qf0, qf1, qf2⟩ := box_cell HR2.out
        clear hb2 bA c0 c1 c2 c3 hbel hB HR1
        go_wp2
        refine box_post HR2.out (fun w4 h4 gr => ?_)
        obtain ⟨d0, d1, d2, -, -, -⟩ := box_cell h4
        exact bodyPost_ret (v := bindA (some (eAt L k).V)) (by simp [bindA, results, Try.results30, go_sem, d0, d1, d2]) rfl ⟨by rw [HV.out], below_set B2 gr (Nat.le_refl _)⟩
      · have k1 := beq_ne he
        have HE := hide he
        clear he
        go_wp2
        go_roundw
        case rel => exact ⟨k + 1, by omega, by go_num, fun j hj => by
            by_cases hjk : j = k
            · rw [hjk]; exact HE.out
            · exact HA.out j (by omega), hbel.alloc hbel.size _⟩
        case measure => simp [intOf]; omega
    · have HV : Hid (bindO L nm = none) := bindO_none (fun j hj => HA.out j (by rw [← HN.out] at hj; omega))
      obtain ⟨q0, q1, q2, qf0, qf1, qf2⟩ := box_cell HR1.out
      go_wp2
      refine box_post HR1.out (fun w4 h4 gr => ?_)
      obtain ⟨d0, d1, d2, -, -, -⟩ := box_cell h4
      exact bodyPost_ret (v := bindA none) (by simp [bindA, results, Try.results30, go_sem, d0, d1, d2]) rfl ⟨by rw [HV.out], below_set hB gr (Nat.le_refl _)⟩
end Go.Proofs.Ytaflokfgbmlmaab
