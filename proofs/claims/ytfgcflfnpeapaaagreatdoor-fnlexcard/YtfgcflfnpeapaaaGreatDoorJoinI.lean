/-
  What the tested JoinTokens answers: the tokens' texts, a blank between.
-/
import Derived.Test.YtfgcflfnpeapaaaGreatDoorJoinP
import Derived.Test.YtfgcflfnpeapaaaGreatDoorTokTI
namespace Go.Proofs.YtfgcflfnpeapaaaGreatDoor
open Go.RowKit
set_option linter.unusedVariables false

set_option maxRecDepth 100000 in
set_option maxHeartbeats 3200000 in
theorem implJoin_any (a : Option Addr) (cap : Nat) (L : List V3) (w : World) (hr : RdV w a L) (hs : ∀ v ∈ L, v.S.size ≤ maxLen) (hm : L.length ≤ 1048580) (ht : Tab w) :
    Calls Tryz.prog 10 #[.slice a L.length cap] w fun e w' => e = .returned (.string ⟨(joinT L L.length).toArray⟩) ∧ Below w.heap.size w w' := by
  obtain ⟨i0, hi, hz0, hz1, hz2⟩ := info_parts Tryz.info5
  obtain ⟨n, hN⟩ : ∃ n, n = L.length := ⟨_, rfl⟩
  rw [← hN] at hm ⊢
  have HN := hide hN
  have HS := hide hs
  have HT := hide (Lib.tabBelow_of_tabIs ht)
  clear hN hs ht
  go_enter Tryz.func10, Tryz.ntmps10
  go_wp2
  go_loopw [3, 8] (fun b i wr => ∃ (k : Nat), k ≤ n ∧ i = .int .i64 k ∧ wr.ownsRow w.heap.size 5 1 b (joinT L k).length (vals (joinT L k)) ∧ Below w.heap.size w wr) (fun _ i _ => n - (intOf i).toNat)
  case atStart => exact ⟨0, Nat.zero_le _, rfl, World.ownsRow_nil _ _ _ _, Below.refl _ _⟩
  case round =>
    obtain ⟨k, hk, rfl, hown, hbel⟩ := hrel
    have hjl : (joinT L k).length ≤ 24117340 := by have := joinT_le L k; omega
    by_cases hlt : k < n
    · obtain ⟨b, off, hab, hbw, hc⟩ := hr.open (by rw [← HN.out]; omega)
      obtain ⟨c0, c1, c2⟩ := hc k (by rw [← HN.out]; exact hlt)
      have hS : (vAt L k).S.size ≤ maxLen := by rw [vAt_in (by rw [← HN.out]; exact hlt)]; exact HS.out _ (List.getElem_mem _)
      clear hc
      subst hab
      rw [← hbel.cell (p := ⟨b, off + k * 3, none⟩) hbw] at c0
      rw [← hbel.cell (p := ⟨b, off + k * 3 + 1, none⟩) hbw] at c1
      rw [← hbel.cell (p := ⟨b, off + k * 3 + 2, none⟩) hbw] at c2
      have HJ1 : Hid (k = 0 → joinT L (k + 1) = (vAt L k).tok) := by rintro rfl; exact joinT_first L
      have HJ2 : Hid (0 < k → joinT L (k + 1) = (joinT L k ++ [32]) ++ (vAt L k).tok) := joinT_next L
      have HJ0 : Hid (k = 0 → joinT L k = []) := by rintro rfl; rfl
      obtain ⟨jn, hjn⟩ : ∃ x, joinT L (k + 1) = x := ⟨_, rfl⟩
      rw [hjn] at HJ1 HJ2
      have HJn := hide hjn
      clear hjn
      generalize joinT L k = jk at HJ0 HJ2 hown hjl
      unfold V3.tok at HJ1 HJ2
      generalize (vAt L k).K = K at c0 HJ1 HJ2
      generalize (vAt L k).N = N at c1 HJ1 HJ2
      generalize (vAt L k).S = S at c2 HJ1 HJ2 hS
      have ba := below_al wr (.cells #[.int .i64 K, .int .i64 N, .string S] 31)
      have hX := box_new wr (.int .i64 K) (.int .i64 N) (.string S) 31
      have hB1 : Below w.heap.size w (wr.alloc (.cells #[.int .i64 K, .int .i64 N, .string S] 31)) := hbel.trans (ba.mono hbel.size)
      have hO1 := hown.alloc (.cells #[.int .i64 K, .int .i64 N, .string S] 31)
      have hz1' : w.heap.size ≤ (wr.alloc (.cells #[.int .i64 K, .int .i64 N, .string S] 31)).heap.size := Nat.le_trans hbel.size ba.size
      clear ba
      by_cases h0 : 0 < k
      · have h0' : (0 : Int) < (k : Int) := by omega
        have HO2 := hide (hO1.alloc (.cells #[.int .u8 32] 5))
        have hz2' : w.heap.size ≤ ((wr.alloc (.cells #[.int .i64 K, .int .i64 N, .string S] 31)).alloc (.cells #[.int .u8 32] 5)).heap.size := by simp at hz1' ⊢; omega
        have hX2 := box_old hX (by simp) (.cells #[.int .u8 32] 5)
        have hB2 := hB1.alloc hz1' (.cells #[.int .u8 32] 5)
        have HSrc := hide (World.news_of_block (heap_alloc_new (wr.alloc (.cells #[.int .i64 K, .int .i64 N, .string S] 31)) (.cells #[.int .u8 32] 5)))
        simp only [World.size_alloc] at HSrc
        go_wp2_with (at_builtin; refine wpList_append_lies _ rfl (.tmp 15) (.tmp 16) 22 rfl w.heap.size 5 i0 (.int .u8 0) 1 1 Tryz.underlying22 hi hz0 hz1 hz2 rfl (by omega) _ _ _ rfl HO2.out ⟨wr.heap.size + 1, 0, none⟩ 1 1 [.int .u8 32] rfl rfl HSrc.out (by intro u hu; obtain rfl := List.mem_singleton.1 hu; rfl) (by omega) (by unfold maxLen; omega) (by omega) hz2' _ rfl ?_)
        intro g2 q2 w2 ho2 hg2 _ _
        have hX3 := (hg2.block wr.heap.size (Array.getElem?_eq_some_iff.1 hX2).1 (fun e => row_not_box HO2.out hX2 (by decide) e.symm)).trans hX2
        have hB3 := hB2.grown hg2 hz2' (fun q hq => (World.ownsRow.lt HO2.out q hq).1)
        have hO3 : w2.ownsRow w.heap.size 5 1 (.slice (some ⟨g2, 0, none⟩) (jk.length + 1) q2) (jk.length + 1) (vals (jk ++ [32])) := by rw [vals_append]; exact ho2
        have hz3 : w.heap.size ≤ w2.heap.size := Nat.le_trans hz2' hg2.size
        obtain ⟨x0, x1, x2, -, -, -⟩ := box_cell hX3
        clear ho2 hg2 hX2 hB2 HO2 HSrc hz2' hX hB1 hO1 hz1' c0 c1 c2 hown hbel
        go_wp2_with fail
        refine (addToken_any _ _ w.heap.size K N S (jk ++ [32]) _ hO3 hz3 (by simp; omega) hS (HT.out.on hB3)).mono ?_
        rintro e w4 ⟨v4, rfl, hO4, hb4⟩
        have hB4 := hB3.trans hb4
        have HO4 : Hid (w4.ownsRow w.heap.size 5 1 v4 (joinT L (k + 1)).length (vals (joinT L (k + 1)))) := by unfold Hid; rw [HJn.out, HJ2.out h0]; exact hO4
        clear hO4 hb4 hO3 hX3 x0 x1 x2 hB3
        go_wp2
        go_roundw
        case rel => exact ⟨k + 1, by omega, by go_num, HO4.out, hB4⟩
        case measure => simp [intOf]; omega
      · obtain rfl : k = 0 := by omega
        have hj0 := HJ0.out rfl
        simp only [Nat.zero_mul, Nat.add_zero] at c0 c1 c2
        obtain ⟨x0, x1, x2, -, -, -⟩ := box_cell hX
        go_wp2_with fail
        refine (addToken_any _ _ w.heap.size K N S jk _ hO1 hz1' (by omega) hS (HT.out.on hB1)).mono ?_
        rintro e w4 ⟨v4, rfl, hO4, hb4⟩
        have hB4 := hB1.trans hb4
        have HO4 : Hid (w4.ownsRow w.heap.size 5 1 v4 (joinT L (0 + 1)).length (vals (joinT L (0 + 1)))) := by
          unfold Hid
          rw [hj0, List.nil_append] at hO4
          rw [HJn.out, HJ1.out (by trivial)]; exact hO4
        clear hO4 hb4 hO1 hX x0 x1 x2 hB1 c0 c1 c2 hown hbel
        go_wp2
        go_roundw
        case rel => exact ⟨0 + 1, by omega, by go_num, HO4.out, hB4⟩
        case measure => simp [intOf]; omega
    · obtain rfl : k = n := by omega
      have hcv := conv_row hown
      clear hown
      go_wp2
      go_ret
      exact ⟨rfl, hbel⟩
end Go.Proofs.YtfgcflfnpeapaaaGreatDoor
