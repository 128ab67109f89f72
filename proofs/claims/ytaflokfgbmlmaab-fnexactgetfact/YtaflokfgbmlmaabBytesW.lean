/-
  The contracts of the laws' own helpers on byte slices: toByteS copies into a row of the call's own; eqByteS tells whether two are the same.
-/
import Derived.Test.YtaflokfgbmlmaabBytes
namespace Go.Proofs.Ytaflokfgbmlmaab
open Go.RowKit
set_option linter.unusedVariables false

def partCopy (bs : List UInt8) (k : Nat) : List Value := vals (bs.take k) ++ List.replicate (bs.length - k) (.int .u8 0)
theorem partCopy_zero (bs : List UInt8) : partCopy bs 0 = List.replicate bs.length (.int .u8 0) := by simp [partCopy, vals]
theorem partCopy_end (bs : List UInt8) : partCopy bs bs.length = vals bs := by simp [partCopy, vals]
theorem partCopy_set {bs : List UInt8} {k : Nat} (h : k < bs.length) : (partCopy bs k).set k (.int .u8 (byteAt bs k)) = partCopy bs (k + 1) := by
  unfold partCopy
  have hl : (vals (bs.take k)).length = k := by rw [vals_length]; simp; omega
  rw [List.set_append_right _ _ (by omega), hl, Nat.sub_self, show bs.length - k = (bs.length - (k + 1)) + 1 by omega, List.replicate_succ, List.set_cons_zero]
  rw [List.take_succ_eq_append_getElem h, vals_append]
  simp [vals, byteAt, List.getD, h]
theorem partCopy_length {bs : List UInt8} {k : Nat} (h : k ≤ bs.length) : (partCopy bs k).length = bs.length := by
  simp [partCopy, vals]; omega

set_option maxHeartbeats 800000 in
theorem toByteS_at (a : Option Addr) (cap : Nat) (bs : List UInt8) (w : World) (hr : Rd w a bs) (hn : bs.length ≤ 1048576) :
    Calls Try.prog 19 #[.slice a bs.length cap] w fun e w' =>
      e = .returned (.slice (some ⟨w.heap.size, 0, none⟩) bs.length bs.length) ∧ w'.ownsRow w.heap.size 5 1 (.slice (some ⟨w.heap.size, 0, none⟩) bs.length bs.length) bs.length (vals bs) ∧ Below w.heap.size w w' := by
  obtain ⟨i0, hi, hz0, hz1, hz2⟩ := info_parts Try.info5
  obtain ⟨n, hN⟩ : ∃ n, n = bs.length := ⟨_, rfl⟩
  rw [← hN] at hn ⊢
  have HN := hide hN
  clear hN
  go_enter Try.func19, Try.ntmps19
  go_wp2_with (at_make; refine wpList_make_full _ rfl _ _ 44 rfl w.heap.size 5 i0 (.int .u8 0) 1 Try.underlying44 hi hz0 hz1 _ _ _ _ n rfl rfl (by omega) (by omega) ?b2 ?b3 (Nat.le_refl _) ?_)
  case b2 => rw [hz2]; omega
  case b3 => unfold maxLen; omega
  intro w0 hown0 hgrow0
  go_wp2
  go_loopw [4] (fun i wr => ∃ k : Nat, k ≤ n ∧ i = .int .i64 k ∧ wr.ownsRow w.heap.size 5 1 (.slice (some ⟨w.heap.size, 0, none⟩) n n) n (partCopy bs k) ∧ Below w.heap.size w wr)
    (fun i _ => n - (intOf i).toNat)
  case atStart =>
    refine ⟨0, Nat.zero_le _, rfl, ?_, (Below.refl _ _).grown hgrow0 (Nat.le_refl _) (fun k h => by cases h)⟩
    rw [partCopy_zero, ← HN.out]
    simpa [toList_madeCells_one, Value.cells] using hown0
  case round =>
    obtain ⟨k, hk, rfl, hown, hbel⟩ := hrel
    by_cases hlt : k < n
    · obtain ⟨b, off, hab, hbw, hc⟩ := hr.open (by rw [← HN.out]; omega)
      have HC := hide hc
      clear hc
      subst hab
      have h1 : wr.cell? ⟨b, off + k, none⟩ = some (.int .u8 (byteAt bs k)) := by
        rw [hbel.cell (p := ⟨b, off + k, none⟩) hbw]; exact HC.out k (by rw [← HN.out]; exact hlt)
      obtain ⟨u, h2⟩ : ∃ u, wr.cell? ⟨w.heap.size, k, none⟩ = some u := by
        rw [hown.cellAt k (by omega), List.getElem?_eq_getElem (by rw [partCopy_length (by rw [← HN.out]; exact hk), ← HN.out]; exact hlt)]
        exact ⟨_, rfl⟩
      have h3 : wr.frozen? ⟨w.heap.size, k, none⟩ = false := hown.frozenAt k
      have HO := hide (hown.stored k (.int .u8 (byteAt bs k)))
      have hb1 := byteAt_lo bs k
      have hb2 := byteAt_hi bs k
      go_wp2
      go_roundw
      case rel =>
        refine ⟨k + 1, by omega, by go_num, ?_, hbel.setCell (Nat.le_refl _) _⟩
        rw [← partCopy_set (by rw [← HN.out]; exact hlt)]
        exact HO.out.1
      case measure => simp [intOf]; omega
    · have hkn : k = bs.length := by rw [← HN.out]; omega
      have HK : Hid (wr.ownsRow w.heap.size 5 1 (.slice (some ⟨w.heap.size, 0, none⟩) n n) n (vals bs)) := by
        have := hown
        rw [hkn, partCopy_end] at this
        exact this
      clear hkn
      go_wp2
      go_ret
      exact ⟨rfl, HK.out, hbel⟩

theorem toByteS_any (a : Option Addr) (cap : Nat) (bs : List UInt8) (w : World) (hr : Rd w a bs) (hn : bs.length ≤ 1048576) :
    Calls Try.prog 19 #[.slice a bs.length cap] w fun e w' =>
      ∃ v, e = .returned v ∧ w'.ownsRow w.heap.size 5 1 v bs.length (vals bs) ∧ Below w.heap.size w w' :=
  (toByteS_at a cap bs w hr hn).mono fun e w' h => ⟨_, h.1, h.2.1, h.2.2⟩

theorem eq_of_bytes {xs ys : List UInt8} (hl : xs.length = ys.length) (h : ∀ j, j < xs.length → byteAt xs j = byteAt ys j) : xs = ys := by
  apply List.ext_getElem hl
  intro i h1 h2
  have := h i h1
  unfold byteAt at this
  simp [List.getD, h1, h2] at this
  exact UInt8.toNat_inj.1 (by omega)

set_option maxHeartbeats 800000 in
theorem eqByteS_any (a b : Option Addr) (ca cb : Nat) (xs ys : List UInt8) (w : World) (ha : Rd w a xs) (hb : Rd w b ys) (hn : xs.length ≤ 33554432) (hm : ys.length ≤ 33554432) :
    Calls Try.prog 21 #[.slice a xs.length ca, .slice b ys.length cb] w fun e w' =>
      e = .returned (.bool (decide (xs = ys))) ∧ ∃ nd, w' = w.drewN nd := by
  by_cases hl : xs.length = ys.length
  · obtain ⟨n, hN⟩ : ∃ n, n = xs.length := ⟨_, rfl⟩
    have hN2 : n = ys.length := hN.trans hl
    rw [← hN] at hn ⊢
    rw [← hN2] at hm ⊢
    have HN := hide hN
    have HN2 := hide hN2
    clear hN hN2 hl
    go_enter Try.func21, Try.ntmps21
    go_wp2
    go_loopw [5] (fun i wr => ∃ k nd : Nat, k ≤ n ∧ i = .int .i64 k ∧ wr = w.drewN nd ∧ ∀ j, j < k → byteAt xs j = byteAt ys j) (fun i _ => n - (intOf i).toNat)
    case atStart => exact ⟨0, 0, Nat.zero_le _, rfl, rfl, fun j hj => absurd hj (Nat.not_lt_zero _)⟩
    case round =>
      obtain ⟨k, nd, hk, rfl, rfl, hall⟩ := hrel
      have HA := hide hall
      clear hall
      by_cases hlt : k < n
      · obtain ⟨b1, o1, e1, hb1, hc1⟩ := ha.open (by rw [← HN.out]; omega)
        obtain ⟨b2, o2, e2, hb2, hc2⟩ := hb.open (by rw [← HN2.out]; omega)
        have g1 := hc1 k (by rw [← HN.out]; exact hlt)
        have g2 := hc2 k (by rw [← HN2.out]; exact hlt)
        have l1 : (k : Int) < (n : Int) := by omega
        clear hc1 hc2
        subst e1 e2
        have x1 := byteAt_lo xs k
        have x2 := byteAt_hi xs k
        have y1 := byteAt_lo ys k
        have y2 := byteAt_hi ys k
        cases hq : (byteAt xs k != byteAt ys k)
        · have HQ := hide hq
          go_wp2
          go_quiet (fail)
          go_wp2
          go_roundw
          case rel => exact ⟨k + 1, _, by omega, by go_num, rfl, fun j hj => by
            by_cases hjk : j = k
            · have := HQ.out; simp at this; rw [hjk]; exact this
            · exact HA.out j (by omega)⟩
          case measure => simp [intOf]; omega
        · have HD : Hid (decide (xs = ys) = false) := by
            unfold Hid
            rw [decide_eq_false_iff_not]
            intro e
            rw [e] at hq
            simp at hq
          go_wp2
          go_quiet (fail)
          go_wp2
          go_ret
          exact ⟨ret_bool HD.out.symm, _, by rw [World.drewN_drewN]⟩
      · have HD : Hid (decide (xs = ys) = true) := by
          unfold Hid
          rw [decide_eq_true_iff]
          exact eq_of_bytes (HN.out.symm.trans HN2.out) (fun j hj => HA.out j (by rw [← HN.out] at hj; omega))
        go_wp2
        go_ret
        exact ⟨ret_bool HD.out.symm, _, rfl⟩
  · have hd : decide (xs = ys) = false := by
      rw [decide_eq_false_iff_not]; intro e; exact hl (by rw [e])
    rw [hd]
    have hl2 : ((xs.length : Int) != (ys.length : Int)) = true := by simp; omega
    clear hd
    go_enter Try.func21, Try.ntmps21
    go_wp2
    go_ret
    exact ⟨rfl, 0, rfl⟩
end Go.Proofs.Ytaflokfgbmlmaab
