/-
  What the model's JoinTokens answers: the tokens' texts, a blank between.
-/
import Derived.Test.YtfgcflfnpeapaaaGreatDoorJoinP
import Derived.Test.YtfgcflfnpeapaaaGreatDoorTokTS
namespace Go.Proofs.YtfgcflfnpeapaaaGreatDoor
open Go.RowKit
set_option linter.unusedVariables false

theorem mk_size (l : List UInt8) : (⟨l.toArray⟩ : ByteArray).size = l.length := by show l.toArray.size = _; simp
theorem mk_app (a b : List UInt8) : (⟨a.toArray⟩ ++ ⟨b.toArray⟩ : ByteArray) = ⟨(a ++ b).toArray⟩ := by
  apply ByteArray.ext
  apply Array.ext'
  simp [ByteArray.data_append]

set_option maxRecDepth 100000 in
set_option maxHeartbeats 3200000 in
theorem specJoin_any (a : Option Addr) (cap : Nat) (L : List V3) (w : World) (hr : RdV w a L) (hs : ∀ v ∈ L, v.S.size ≤ maxLen) (hm : L.length ≤ 1048580) :
    Calls Tryz.prog 12 #[.slice a L.length cap] w fun e w' => e = .returned (.string ⟨(joinT L L.length).toArray⟩) ∧ Below w.heap.size w w' := by
  obtain ⟨n, hN⟩ : ∃ n, n = L.length := ⟨_, rfl⟩
  rw [← hN] at hm ⊢
  have HN := hide hN
  have HS := hide hs
  clear hN hs
  go_enter Tryz.func12, Tryz.ntmps12
  go_wp2
  go_loopw [3, 4] (fun s i wr => ∃ (k : Nat) (x : ByteArray), k ≤ n ∧ i = .int .i64 k ∧ s = .string x ∧ x = ⟨(joinT L k).toArray⟩ ∧ Below w.heap.size w wr) (fun _ i _ => n - (intOf i).toNat)
  case atStart => exact ⟨0, ⟨#[]⟩, Nat.zero_le _, rfl, rfl, rfl, Below.refl _ _⟩
  case round =>
    obtain ⟨k, x, hk, rfl, rfl, hx, hbel⟩ := hrel
    have hxl : x.size ≤ 24117340 := by rw [hx, mk_size]; have := joinT_le L k; omega
    have HX := hide hx
    clear hx
    by_cases hlt : k < n
    · obtain ⟨b, off, hab, hbw, hc⟩ := hr.open (by rw [← HN.out]; omega)
      obtain ⟨c0, c1, c2⟩ := hc k (by rw [← HN.out]; exact hlt)
      have hS : (vAt L k).S.size ≤ maxLen := by rw [vAt_in (by rw [← HN.out]; exact hlt)]; exact HS.out _ (List.getElem_mem _)
      clear hc
      subst hab
      rw [← hbel.cell (p := ⟨b, off + k * 3, none⟩) hbw] at c0
      rw [← hbel.cell (p := ⟨b, off + k * 3 + 1, none⟩) hbw] at c1
      rw [← hbel.cell (p := ⟨b, off + k * 3 + 2, none⟩) hbw] at c2
      have hc1 : (ByteArray.mk #[32]).size = 1 := rfl
      have HT := hide (fun W => specTokenText_any (vAt L k).K (vAt L k).N (vAt L k).S W hS)
      obtain ⟨y, hy⟩ : ∃ y, y = (⟨(tokL (vAt L k).K (vAt L k).N (vAt L k).S).toArray⟩ : ByteArray) := ⟨_, rfl⟩
      rw [← hy] at HT
      have hyl : y.size ≤ 22 := by rw [hy, mk_size]; exact tokL_le _ _ _
      have HY := hide hy
      clear hy
      by_cases h0 : 0 < k
      · have h0' : (0 : Int) < (k : Int) := by omega
        have HE : Hid (x ++ ⟨#[32]⟩ ++ y = ⟨(joinT L (k + 1)).toArray⟩) := by
          unfold Hid
          rw [joinT_next L h0, HX.out, HY.out]
          rw [show (⟨#[32]⟩ : ByteArray) = ⟨([32] : List UInt8).toArray⟩ from rfl, mk_app, mk_app]; rfl
        have n1 : ¬ 9223372036854775807 < x.size + 1 := by omega
        have n2 : ¬ 9223372036854775807 < x.size + 1 + y.size := by omega
        go_wp2_with (go_at_call 25; refine (HT.out _).mono ?_; rintro e w2 ⟨rfl, hb2⟩)
        have hB2 := hbel.trans (hb2.mono hbel.size)
        clear hb2 c0 c1 c2
        go_roundw
        case rel => exact ⟨k + 1, _, by omega, by go_num, rfl, HE.out, hB2⟩
        case measure => simp [intOf]; omega
      · have h0' : ¬ (0 : Int) < (k : Int) := by omega
        have HE : Hid (x ++ y = ⟨(joinT L (k + 1)).toArray⟩) := by
          unfold Hid
          have hk0 : k = 0 := by omega
          subst hk0
          rw [joinT_first L, HX.out, HY.out, mk_app]; rfl
        have n2 : ¬ 9223372036854775807 < x.size + y.size := by omega
        go_wp2_with (go_at_call 25; refine (HT.out _).mono ?_; rintro e w2 ⟨rfl, hb2⟩)
        have hB2 := hbel.trans (hb2.mono hbel.size)
        clear hb2 c0 c1 c2
        go_roundw
        case rel => exact ⟨k + 1, _, by omega, by go_num, rfl, HE.out, hB2⟩
        case measure => simp [intOf]; omega
    · obtain rfl : k = n := by omega
      go_wp2
      go_ret
      exact ⟨by rw [← HX.out]; rfl, hbel⟩
end Go.Proofs.YtfgcflfnpeapaaaGreatDoor
