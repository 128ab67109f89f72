/-
  What the model's ComputeAll answers: allR.
-/
import Derived.Test.YtbellpalomiokaaJoined2
namespace Go.Proofs.Ytbellpalomiokaa
open Go.RowKit
set_option linter.unusedVariables false

set_option maxRecDepth 100000 in
set_option maxHeartbeats 3200000 in
theorem specComputeAll_any (a : Option Addr) (cap : Nat) (es : List X11) (a2 : Option Addr) (cap2 : Nat) (B : List B4) (w : World) (hr : RdExpr w a es) (hs : ∀ x ∈ es, x.small) (hb : RdBind w a2 B) (hs2 : ∀ y ∈ B, y.small) (hn : es.length ≤ 1048576) (hm : B.length ≤ 2097152) :
    Calls Try.prog 25 #[.slice a es.length cap, .slice a2 B.length cap2] w fun e w' => GivesA e w' w (allR es B) := by
  obtain ⟨i0, hi, hz0, hz1, hz2⟩ := info_parts Try.info30
  obtain ⟨n, hN⟩ : ∃ n, n = es.length := ⟨_, rfl⟩
  have HYes := hide (fun L => @allR_yes B es L)
  have HNo := hide (fun k => @allR_no B es k)
  generalize allR es B = r at HYes HNo ⊢
  rw [← hN] at hn ⊢
  have HN := hide hN
  have HS := hide hs
  have HS2 := hide hs2
  clear hN hs hs2
  have ho2 : (w.alloc (.cells #[] 30)).ownsRow w.heap.size 30 3 (.slice (some ⟨w.heap.size, 0, none⟩) 0 0) ([] : List V3).length (cells3 []) := World.ownsRow_lit w #[] 0 (Nat.le_refl _) (Nat.zero_le _) rfl
  have b2 := below_al w (.cells #[] 30)
  go_enter Try.func25, Try.ntmps25
  go_wp2
  go_loopw [6, 7] (fun v i wr => ∃ (L : List V3), L.length ≤ n ∧ i = .int .i64 (L.length : Int) ∧ wr.ownsRow w.heap.size 30 3 v L.length (cells3 L) ∧ (∀ j, j < L.length → compO (eAt es j) B = some (vAt L j)) ∧ Below w.heap.size w wr) (fun _ i _ => n - (intOf i).toNat)
  case atStart => exact ⟨[], Nat.zero_le _, rfl, ho2, fun j hj => absurd hj (Nat.not_lt_zero _), b2⟩
  case round =>
    clear ho2 b2
    obtain ⟨L, hk, rfl, hown, hall, hbel⟩ := hrel
    obtain ⟨g, c, e0, -, -, -, -⟩ := rdV_owns hown
    obtain ⟨k, hkL⟩ : ∃ k, k = L.length := ⟨_, rfl⟩
    have HA := hide hall
    clear hall
    rw [← hkL] at hk hown e0 ⊢
    subst e0
    have HK := hide hkL
    clear hkL
    by_cases hlt : k < n
    · obtain ⟨b, off, hab, hbw, hc⟩ := RdExpr.cells hr (by rw [← HN.out]; omega)
      obtain ⟨c0, c1, c2, c3, c4, c5, c6, c7, c8, c9, c10⟩ := hc k (by rw [← HN.out]; exact hlt)
      clear hc
      subst hab
      rw [← hbel.cell (p := ⟨b, off + k * 11, none⟩) hbw] at c0
      rw [← hbel.cell (p := ⟨b, off + k * 11 + 1, none⟩) hbw] at c1
      rw [← hbel.cell (p := ⟨b, off + k * 11 + 2, none⟩) hbw] at c2
      rw [← hbel.cell (p := ⟨b, off + k * 11 + 3, none⟩) hbw] at c3
      rw [← hbel.cell (p := ⟨b, off + k * 11 + 4, none⟩) hbw] at c4
      rw [← hbel.cell (p := ⟨b, off + k * 11 + 5, none⟩) hbw] at c5
      rw [← hbel.cell (p := ⟨b, off + k * 11 + 6, none⟩) hbw] at c6
      rw [← hbel.cell (p := ⟨b, off + k * 11 + 7, none⟩) hbw] at c7
      rw [← hbel.cell (p := ⟨b, off + k * 11 + 8, none⟩) hbw] at c8
      rw [← hbel.cell (p := ⟨b, off + k * 11 + 9, none⟩) hbw] at c9
      rw [← hbel.cell (p := ⟨b, off + k * 11 + 10, none⟩) hbw] at c10
      have hS : (eAt es k).small := by rw [eAt_in (by rw [← HN.out]; exact hlt)]; exact HS.out _ (List.getElem_mem _)
      go_wp2_with fail
      refine (specCompute_any (eAt es k) _ _ B _ hS (hb.below hbel) HS2.out hm).mono ?_
      rintro e w3 ⟨rfl, hb3⟩
      have hbel3 : Below w.heap.size w w3 := hbel.trans (hb3.mono hbel.size)
      have hown3 := ownsRow_below hown hb3
      clear hb3 hbel hown c0 c1 c2 c3 c4 c5 c6 c7 c8 c9 c10
      rw [bindA_oz]
      have HI := hide (show (compO (eAt es k) B = none ∧ (compO (eAt es k) B).isSome = false) ∨ (compO (eAt es k) B = some (oz (compO (eAt es k) B)) ∧ (compO (eAt es k) B).isSome = true) by cases compO (eAt es k) B <;> simp [oz])
      obtain ⟨q, hq⟩ : ∃ q, q = compO (eAt es k) B := ⟨_, rfl⟩
      rw [← hq] at HI ⊢
      have HQ := hide hq
      clear hq
      obtain ⟨⟨K, N, S⟩, hv⟩ : ∃ v, v = oz q := ⟨_, rfl⟩
      rw [← hv] at HI ⊢
      generalize q.isSome = bb at HI ⊢
      clear hv
      simp only
      rcases HI.out with ⟨hq, rfl⟩ | ⟨hq, rfl⟩
      · have HR : Hid (r = ([], false)) := HNo.out k (by rw [← HN.out]; exact hlt) (by rw [← HQ.out, hq])
        clear HI hq
        have HG : Hid (∀ W v, W.ownsRow w.heap.size 30 3 v 0 (cells3 []) → Below w.heap.size w W → GivesA (.returned (.tuple #[v, .bool false])) W w r) := by unfold Hid; rw [HR.out]; exact fun W v h1 h2 => ⟨v, rfl, h1, h2⟩
        have b4 := hbel3.alloc hbel3.size (.cells #[.int .i64 K, .int .i64 N, .string S] 30)
        have ho5 : ((w3.alloc (.cells #[.int .i64 K, .int .i64 N, .string S] 30)).alloc (.cells #[] 30)).ownsRow w.heap.size 30 3 (.slice (some ⟨(w3.alloc (.cells #[.int .i64 K, .int .i64 N, .string S] 30)).heap.size, 0, none⟩) 0 0) ([] : List V3).length (cells3 []) := World.ownsRow_lit _ #[] 0 b4.size (Nat.zero_le _) rfl
        rw [World.size_alloc] at ho5
        have HO5 := hide ho5
        have HB5 := hide (b4.alloc b4.size (.cells #[] 30))
        clear b4 ho5
        go_wp2
        go_ret2
        exact HG.out _ _ HO5.out HB5.out
      · have HC : Hid (compO (eAt es k) B = some ⟨K, N, S⟩) := by unfold Hid; rw [← HQ.out, hq]
        clear HI hq
        have hown4 := (hown3.alloc (.cells #[.int .i64 K, .int .i64 N, .string S] 30)).alloc (.cells #[.int .i64 K, .int .i64 N, .string S] 30)
        have HO4 := hide hown4
        have hsrc := news_src (w3.alloc (.cells #[.int .i64 K, .int .i64 N, .string S] 30)) ⟨K, N, S⟩
        have HSrc := hide hsrc
        have HB4 := hide ((hbel3.alloc hbel3.size (.cells #[.int .i64 K, .int .i64 N, .string S] 30)).alloc (by have := hbel3.size; simp; omega) (.cells #[.int .i64 K, .int .i64 N, .string S] 30))
        clear hown3 hown4 hsrc hbel3
        go_wp2_with (at_builtin; refine wpList_append_lies _ rfl (.tmp 29) (.tmp 31) 58 rfl w.heap.size 30 i0 (.agg #[.int .i64 0, .int .i64 0, .string ⟨#[]⟩]) 3 32 Try.underlying58 hi hz0 hz1 hz2 rfl (by omega) (.slice g k c) k (cells3 L) rfl HO4.out ⟨(w3.alloc (.cells #[.int .i64 K, .int .i64 N, .string S] 30)).heap.size, 0, none⟩ 1 1 [.int .i64 K, .int .i64 N, .string S] ?hx rfl HSrc.out (news_one ⟨K, N, S⟩) (by omega) (by unfold maxLen; omega) (by omega) HB4.out.size _ rfl ?_)
        intro g5 c5 w5 ho5 hg5 hat5 hlt5
        have HO5 : Hid (w5.ownsRow w.heap.size 30 3 (.slice (some ⟨g5, 0, none⟩) (k + 1) c5) (L ++ [(⟨K, N, S⟩ : V3)]).length (cells3 (L ++ [⟨K, N, S⟩]))) := by
          unfold Hid
          rw [← app3, List.length_append, ← HK.out]
          exact ho5
        have HB5 := hide (HB4.out.grown hg5 HB4.out.size (fun k hk => (HO4.out.lt k hk).1))
        have HA5 : Hid (∀ j, j < (L ++ [(⟨K, N, S⟩ : V3)]).length → compO (eAt es j) B = some (vAt (L ++ [⟨K, N, S⟩]) j)) := fun j hj => by
          rw [List.length_append] at hj
          by_cases hjl : j < L.length
          · rw [vAt_snoc_lt hjl]; exact HA.out j hjl
          · have hjk : j = L.length := by simp at hj; omega
            rw [hjk, vAt_snoc_eq, ← HK.out]; exact HC.out
        have HL5 : Hid ((L ++ [(⟨K, N, S⟩ : V3)]).length = k + 1) := by unfold Hid; rw [List.length_append, ← HK.out]; rfl
        clear ho5 hg5 hat5 hlt5 HO4 HSrc HB4
        go_wp2
        go_roundw
        case rel => exact ⟨L ++ [⟨K, N, S⟩], by rw [HL5.out]; omega, by rw [HL5.out]; go_num, HO5.out, HA5.out, HB5.out⟩
        case measure => simp [intOf]; omega
    · have hkn : k = n := by omega
      have HR : Hid (r = (L, true)) := HYes.out L (by rw [← HK.out, ← HN.out]; exact hkn) (fun j hj => HA.out j (by rw [← HN.out] at hj; rw [← HK.out]; omega))
      have HG : Hid (∀ W v, W.ownsRow w.heap.size 30 3 v L.length (cells3 L) → Below w.heap.size w W → GivesA (.returned (.tuple #[v, .bool true])) W w r) := by unfold Hid; rw [HR.out]; exact fun W v h1 h2 => ⟨v, rfl, h1, h2⟩
      have HO : Hid (wr.ownsRow w.heap.size 30 3 (.slice g k c) L.length (cells3 L)) := by unfold Hid; rw [← HK.out]; exact hown
      clear hown
      go_wp2
      go_ret2
      exact HG.out _ _ HO.out hbel
end Go.Proofs.Ytbellpalomiokaa
