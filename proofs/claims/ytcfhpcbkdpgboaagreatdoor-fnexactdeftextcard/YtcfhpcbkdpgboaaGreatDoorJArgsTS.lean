/-
  What the model answers for a name with terms behind it: namedT.
-/
import Derived.Test.YtcfhpcbkdpgboaaGreatDoorJoined4
import Derived.Test.YtcfhpcbkdpgboaaGreatDoorJExprTS
namespace Go.Proofs.YtcfhpcbkdpgboaaGreatDoor
open Go.RowKit
set_option linter.unusedVariables false

theorem take_joinX {L : List X11} {k : Nat} (hk : k < L.length) : joinX (L.take (k + 1)) = if k = 0 then (eAt L k).tx.data.toList else joinX (L.take k) ++ (44 :: 32 :: (eAt L k).tx.data.toList) := by
  rw [List.take_succ_eq_append_getElem hk, joinX_snoc, eAt_in hk]
  by_cases h : k = 0
  · subst h; simp
  · have : L.take k ≠ [] := by intro e; have := congrArg List.length e; rw [List.length_take, List.length_nil] at this; omega
    rw [if_neg this, if_neg h]
/-- what stands behind k terms -/
def argsK (nm : ByteArray) (L : List X11) (k : Nat) : ByteArray := nm ++ ⟨#[40]⟩ ++ ⟨(joinX (L.take k)).toArray⟩
theorem argsK_0 (nm : ByteArray) (L : List X11) : argsK nm L 0 = nm ++ ⟨#[40]⟩ := by
  unfold argsK; rw [List.take_zero, joinX_nil]; exact ByteArray.append_empty
theorem ba_app (x : List UInt8) (t : ByteArray) : (⟨(x ++ t.data.toList).toArray⟩ : ByteArray) = ⟨x.toArray⟩ ++ t := by
  apply ByteArray.ext
  simp [ByteArray.data_append]
theorem argsK_1 (nm : ByteArray) {L : List X11} (h : 0 < L.length) : argsK nm L 1 = nm ++ ⟨#[40]⟩ ++ (eAt L 0).tx := by
  unfold argsK
  rw [show (1 : Nat) = 0 + 1 from rfl, take_joinX h, if_pos rfl]
theorem argsK_s (nm : ByteArray) {L : List X11} {k : Nat} (h : k < L.length) (h0 : k ≠ 0) : argsK nm L (k + 1) = argsK nm L k ++ ⟨#[44, 32]⟩ ++ (eAt L k).tx := by
  unfold argsK
  rw [take_joinX h, if_neg h0, show (44 : UInt8) :: 32 :: (eAt L k).tx.data.toList = [44, 32] ++ (eAt L k).tx.data.toList from rfl, ← List.append_assoc, ba_app]
  have e2 : (⟨(joinX (L.take k) ++ [44, 32]).toArray⟩ : ByteArray) = (⟨(joinX (L.take k)).toArray⟩ : ByteArray) ++ (⟨#[44, 32]⟩ : ByteArray) := ba_app _ ⟨#[44, 32]⟩
  rw [e2]
  simp only [ByteArray.append_assoc]
theorem argsK_size {nm : ByteArray} {L : List X11} (h : namedX nm L = true) {k : Nat} (hk : k ≤ L.length) : (argsK nm L k).size ≤ 258 := by
  obtain ⟨h1, h2, h3⟩ := namedX_open h
  have c40 : (ByteArray.mk #[40]).size = 1 := rfl
  have := nameP_size h1
  have hj := joinX_take h3 k hk
  have : (⟨(joinX (L.take k)).toArray⟩ : ByteArray).size ≤ 245 := by
    show (joinX (L.take k)).toArray.size ≤ 245
    simp only [List.size_toArray]
    omega
  unfold argsK
  simp only [ByteArray.size_append, c40]
  omega
theorem argsK_end (nm : ByteArray) (L : List X11) : argsK nm L L.length ++ ⟨#[41]⟩ = namedT nm L := by
  unfold argsK namedT
  rw [List.take_length]

set_option maxRecDepth 100000 in
set_option maxHeartbeats 3200000 in
theorem l8ArgsText_any (K : Int) (nm : ByteArray) (a : Option Addr) (cap : Nat) (L : List X11) (N : Int) (un : ByteArray) (w : World) (hr : RdExpr w a L) (hs : ∀ x ∈ L, x.fits) (ho : namedX nm L = true) :
    Calls Tryz.prog 53 #[.agg #[.int .i64 K, .string nm, .slice a L.length cap, .int .i64 N, .string un]] w fun e w' => e = .returned (.string (namedT nm L)) ∧ Below w.heap.size w w' := by
  have b0 := below_al w (.cells #[.int .i64 K, .string nm, .slice a L.length cap, .int .i64 N, .string un] 69)
  have hX := boxk_new w #[.int .i64 K, .string nm, .slice a L.length cap, .int .i64 N, .string un] 69
  have hm := (namedX_open ho).2.1
  have hn12 := nameP_size (namedX_open ho).1
  have HSz := hide (fun k hk => @argsK_size nm L ho k hk)
  have HTx := hide (fun v (hv : v ∈ L) => txX_size ((namedX_open ho).2.2 v hv))
  have HEnd := hide (argsK_end nm L)
  have H0 := hide (argsK_0 nm L)
  have H1 := hide (fun h => argsK_1 nm (L := L) h)
  have HK := hide (fun k h h0 => argsK_s nm (L := L) (k := k) h h0)
  obtain ⟨n, hN⟩ : ∃ n, n = L.length := ⟨_, rfl⟩
  rw [← hN] at hm b0 hX HEnd ⊢
  have HN := hide hN
  have HS := hide hs
  have HX := hide hX
  have n0 : ¬ 9223372036854775807 < nm.size + 1 := by omega
  have m0 : nm.size + 1 ≤ 9223372036854775807 := by omega
  clear hN hs hX ho
  go_enter Tryz.func53, Tryz.ntmps53
  go_wp2
  go_loopw [3, 4] (fun s i wr => ∃ (k : Nat), k ≤ n ∧ i = .int .i64 k ∧ s = .string (argsK nm L k) ∧ Below w.heap.size w wr ∧ wr.heap[w.heap.size]? = some (.cells #[.int .i64 K, .string nm, .slice a n cap, .int .i64 N, .string un] 69 (0, 0))) (fun _ i _ => n - (intOf i).toNat)
  case atStart => exact ⟨0, Nat.zero_le _, rfl, by rw [H0.out], b0, HX.out⟩
  case round =>
    obtain ⟨k, hk, rfl, rfl, hbel, hbx⟩ := hrel
    have hz := hbel.size
    have HX2 := hide hbx
    clear hbx HX
    have p2 := boxk_cell HX2.out 2 _ rfl
    have hsz := HSz.out k (by rw [← HN.out]; exact hk)
    by_cases hlt : k < n
    · have hlL : k < L.length := by rw [← HN.out]; exact hlt
      obtain ⟨b, off, hab, hbw, hc⟩ := RdExpr.cells (hr.below hbel) (by omega)
      obtain ⟨c0, c1, c2, c3, c4, c5, c6, c7, c8, c9, c10⟩ := hc k hlL
      clear hc
      subst hab
      have hS : (eAt L k).fits := by rw [eAt_in hlL]; exact HS.out _ (List.getElem_mem _)
      have hT : (eAt L k).tx.size ≤ 47 := by rw [eAt_in hlL]; exact HTx.out _ (List.getElem_mem _)
      have HNext : Hid (argsK nm L (k + 1) = if k = 0 then argsK nm L k ++ (eAt L k).tx else argsK nm L k ++ ⟨#[44, 32]⟩ ++ (eAt L k).tx) := by
        unfold Hid
        by_cases h0 : k = 0
        · rw [if_pos h0]; subst h0; rw [H1.out hlL, H0.out]
        · rw [if_neg h0, HK.out k hlL h0]
      obtain ⟨tx, htx⟩ : ∃ tx, tx = (eAt L k).tx := ⟨_, rfl⟩
      rw [← htx] at HNext hT
      rw [show (eAt L k).tx = exprT (eAt L k).Op (eAt L k).L (eAt L k).R from rfl] at htx
      have HT := hide htx
      clear htx
      generalize eAt L k = x at c0 c1 c2 c3 c4 c5 c6 c7 c8 c9 c10 hS HT
      obtain ⟨hSo, hS0, hS1⟩ := hS
      obtain ⟨sK, hsK⟩ : ∃ sK, sK = argsK nm L k := ⟨_, rfl⟩
      rw [← hsK] at HNext hsz ⊢
      clear hsK
      have HE := hide (fun W => specExprText_any x.Op x.L x.R W hS0 hS1)
      rw [← HT.out] at HE
      clear hSo hS0 hS1 HT
      have esz : (ByteArray.mk #[44, 32]).size = 2 := rfl
      by_cases h0 : k = 0
      · subst h0
        have HN2 : Hid (argsK nm L (0 + 1) = sK ++ tx) := by unfold Hid; rw [HNext.out, if_pos rfl]
        clear HNext esz
        simp only [Nat.zero_mul, Nat.add_zero] at c0 c1 c2 c3 c4 c5 c6 c7 c8 c9 c10
        have n1 : ¬ 9223372036854775807 < sK.size + tx.size := by omega
        have m1 : sK.size + tx.size ≤ 9223372036854775807 := by omega
        go_wp2_with fail
        refine (HE.out _).mono ?_
        rintro e w2 ⟨rfl, hb2⟩
        have hbel2 : Below w.heap.size w w2 := hbel.trans (hb2.mono hbel.size)
        have HX3 := hide (box_step HX2.out hb2)
        clear hb2 hbel HX2 p2 c0 c1 c2 c3 c4 c5 c6 c7 c8 c9 c10
        go_wp2
        go_roundw
        case rel => exact ⟨0 + 1, by omega, by go_num, by rw [HN2.out], hbel2, HX3.out⟩
        case measure => simp [intOf]; omega
      · have HN2 : Hid (argsK nm L (k + 1) = sK ++ ⟨#[44, 32]⟩ ++ tx) := by unfold Hid; rw [HNext.out, if_neg h0]
        clear HNext
        have kp : (0 : Int) < (k : Int) := by omega
        have n3 : ¬ 9223372036854775807 < sK.size + 2 := by omega
        have m3 : sK.size + 2 ≤ 9223372036854775807 := by omega
        have n1 : ¬ 9223372036854775807 < sK.size + 2 + tx.size := by omega
        have m1 : sK.size + 2 + tx.size ≤ 9223372036854775807 := by omega
        clear esz h0
        go_wp2_with fail
        refine (HE.out _).mono ?_
        rintro e w2 ⟨rfl, hb2⟩
        have hbel2 : Below w.heap.size w w2 := hbel.trans (hb2.mono hbel.size)
        have HX3 := hide (box_step HX2.out hb2)
        clear hb2 hbel HX2 p2 c0 c1 c2 c3 c4 c5 c6 c7 c8 c9 c10
        go_wp2
        go_roundw
        case rel => exact ⟨k + 1, by omega, by go_num, by rw [HN2.out], hbel2, HX3.out⟩
        case measure => simp [intOf]; omega
    · obtain rfl : k = n := by omega
      have n1 : ¬ 9223372036854775807 < (argsK nm L k).size + 1 := by omega
      have m1 : (argsK nm L k).size + 1 ≤ 9223372036854775807 := by omega
      have HEd := hide (HEnd.out)
      generalize argsK nm L k = sK at n1 m1 hsz HEd ⊢
      go_wp2
      go_ret
      exact ⟨by rw [← HEd.out]; rfl, hbel⟩
end Go.Proofs.YtcfhpcbkdpgboaaGreatDoor
