/-
  The contracts of the laws' own helpers on items and stores: how great they are, their copies, and that one is the same as itself.
-/
import Derived.Test.YtjiopefdfkjfkaaDoorItemRow
import Derived.Test.YtjiopefdfkjfkaaDoorStoreArg
import Derived.Test.YtjiopefdfkjfkaaDoorToFact
namespace Go.Proofs.YtjiopefdfkjfkaaDoor
open Go.RowKit
set_option linter.unusedVariables false

def szI (x : It) : Nat := x.kd.size + szL x.L
def szJ (J : List It) (k : Nat) : Nat := ((J.take k).map szI).sum
theorem szJ_step {J : List It} {k : Nat} (h : k < J.length) : szJ J (k + 1) = szJ J k + szI (iAt J k) := by
  unfold szJ; rw [List.take_succ_eq_append_getElem h, iAt_in h, List.map_append, List.sum_append]; simp only [List.map_cons, List.map_nil, List.sum_cons, List.sum_nil, Nat.add_zero]
def szSt (J : List It) : Nat := J.length + (J.map szI).sum
theorem szJ_end (J : List It) : szJ J J.length = (J.map szI).sum := by unfold szJ; rw [List.take_length]
theorem szSt_mem {J : List It} {i : Nat} (hi : i < J.length) : szI (iAt J i) + J.length ≤ szSt J := by
  unfold szSt
  have : szI (iAt J i) ≤ (J.map szI).sum := mem_sum (List.mem_map.2 ⟨_, by rw [iAt_in hi]; exact List.getElem_mem hi, rfl⟩)
  omega

set_option maxRecDepth 100000 in
set_option maxHeartbeats 1600000 in
theorem szItem_any (id : Int) (kd : ByteArray) (a : Option Addr) (cap : Nat) (L : List V3) (left : Int) (w : World) (hkd : kd.size ≤ maxLen) (hr : RdV w a L) (hs : ∀ v ∈ L, v.S.size ≤ maxLen) (hm : L.length ≤ maxLen) (h0 : 0 ≤ left) (h1 : left ≤ 1048576) :
    Calls Tryd.prog 115 #[.agg #[.int .i64 id, .string kd, .slice a L.length cap], .int .i64 left] w fun e w' =>
      (∃ r, e = .returned (.int .i64 r) ∧ (r = -1 ∨ (0 ≤ r ∧ r + ((kd.size + szL L : Nat) : Int) = left))) ∧ Below w.heap.size w w' := by
  have b0 := below_al w (.cells #[.int .i64 id, .string kd, .slice a L.length cap] 146)
  go_enter Tryd.func115, Tryd.ntmps115
  go_wp2_with fail
  refine (szFact_any kd a cap L left _ hkd (hr.below b0) hs hm h0 h1).mono ?_
  rintro e w1 ⟨⟨r, rfl, hr1⟩, hb1⟩
  have hB1 : Below w.heap.size w w1 := b0.trans (hb1.mono b0.size)
  clear hb1 b0
  rcases hr1 with rfl | ⟨hr2, hr3⟩
  · go_wp2
    go_ret
    exact ⟨⟨-1, rfl, .inl rfl⟩, hB1⟩
  · have HR := hide hr3
    have h2 : ¬ (r < 0) := by omega
    clear hr3
    go_wp2
    go_ret
    exact ⟨⟨r, rfl, .inr ⟨hr2, HR.out⟩⟩, hB1⟩

set_option maxRecDepth 100000 in
set_option maxHeartbeats 1600000 in
theorem szItemS_any (a : Option Addr) (cap : Nat) (J : List It) (left : Int) (w : World) (hr : RdI w a J) (hs : ∀ i, i < J.length → okI (iAt J i)) (hm : J.length ≤ maxLen) (h0 : 0 ≤ left) (h1 : left ≤ 1048576) :
    Calls Tryd.prog 82 #[.slice a J.length cap, .int .i64 left] w fun e w' =>
      (∃ r, e = .returned (.int .i64 r) ∧ (r = -1 ∨ (0 ≤ r ∧ r + (szSt J : Int) = left))) ∧ Below w.heap.size w w' := by
  unfold maxLen at hm
  obtain ⟨n, hN⟩ : ∃ n, n = J.length := ⟨_, rfl⟩
  rw [← hN] at hm ⊢
  have HN := hide hN
  have HS := hide hs
  clear hN hs
  by_cases h2 : left - (n : Int) < 0
  · go_enter Tryd.func82, Tryd.ntmps82
    go_wp2
    go_ret
    exact ⟨⟨-1, rfl, .inl rfl⟩, Below.refl _ _⟩
  · go_enter Tryd.func82, Tryd.ntmps82
    go_wp2
    go_loopw [1, 5] (fun l i wr => ∃ (k : Nat) (lf : Int), k ≤ n ∧ i = .int .i64 k ∧ l = .int .i64 lf ∧ 0 ≤ lf ∧ lf + (szJ J k : Int) = left - n ∧ Below w.heap.size w wr) (fun _ i _ => n - (intOf i).toNat)
    case atStart => exact ⟨0, left - n, Nat.zero_le _, rfl, rfl, by omega, by simp [szJ], Below.refl _ _⟩
    case round =>
      obtain ⟨k, lf, hk, rfl, rfl, hlf, hsum, hbel⟩ := hrel
      by_cases hlt : k < n
      · obtain ⟨b, off, hab, hbw, hc⟩ := hr.open (by rw [← HN.out]; omega)
        obtain ⟨c0, c1, c2, hv⟩ := hc k (by rw [← HN.out]; exact hlt)
        have HV := hide (hv.below (hbel.mono (Nat.le_refl _)))
        clear hc hv
        subst hab
        rw [← hbel.cell (p := ⟨b, off + k * 3, none⟩) hbw] at c0
        rw [← hbel.cell (p := ⟨b, off + k * 3 + 1, none⟩) hbw] at c1
        rw [← hbel.cell (p := ⟨b, off + k * 3 + 2, none⟩) hbw] at c2
        have HK := hide (HS.out k (by rw [← HN.out]; exact hlt))
        have hst := szJ_step (J := J) (k := k) (by rw [← HN.out]; exact hlt)
        unfold szI at hst
        generalize iAt J k = x at c0 c1 c2 HV HK hst
        obtain ⟨id, kd, va, vc, L⟩ := x
        simp only at c0 c1 c2 HV HK hst
        go_wp2_with fail
        refine (szItem_any id kd va vc L lf _ HK.out.1 HV.out HK.out.2.2 HK.out.2.1 hlf (by omega)).mono ?_
        rintro e w2 ⟨⟨r, rfl, hr1⟩, hb2⟩
        have hbel2 : Below w.heap.size w w2 := hbel.trans (hb2.mono hbel.size)
        clear hb2 c0 c1 c2 hbel
        rcases hr1 with rfl | ⟨hr2, hr3⟩
        · go_wp2
          go_ret
          exact ⟨⟨-1, rfl, .inl rfl⟩, hbel2⟩
        · have HR : Hid (r + (szJ J (k + 1) : Int) = left - n) := by unfold Hid; rw [hst]; omega
          have h3 : ¬ (r < 0) := by omega
          clear hr3 hst hsum
          go_wp2
          go_roundw
          case rel => exact ⟨k + 1, r, by omega, by go_num, rfl, hr2, HR.out, hbel2⟩
          case measure => simp [intOf]; omega
      · have HK : Hid (lf + (szSt J : Int) = left) := by
          unfold Hid szSt
          have := szJ_end J
          have hkn : k = J.length := by rw [← HN.out]; omega
          rw [hkn] at hsum
          have := HN.out
          omega
        clear hsum
        go_wp2
        go_ret
        exact ⟨⟨lf, rfl, .inr ⟨hlf, HK.out⟩⟩, hbel⟩

set_option maxRecDepth 100000 in
set_option maxHeartbeats 1600000 in
theorem szStore_any (a : Option Addr) (cap : Nat) (J : List It) (nx : Int) (left : Int) (w : World) (hr : RdI w a J) (hs : ∀ i, i < J.length → okI (iAt J i)) (hm : J.length ≤ maxLen) (h0 : 0 ≤ left) (h1 : left ≤ 1048576) :
    Calls Tryd.prog 36 #[.agg #[.slice a J.length cap, .int .i64 nx], .int .i64 left] w fun e w' =>
      (∃ r, e = .returned (.int .i64 r) ∧ (r = -1 ∨ (0 ≤ r ∧ r + (szSt J : Int) = left))) ∧ Below w.heap.size w w' := by
  have b0 := below_al w (.cells #[.slice a J.length cap, .int .i64 nx] 65)
  go_enter Tryd.func36, Tryd.ntmps36
  go_wp2_with fail
  refine (szItemS_any a cap J left _ (hr.below b0) hs hm h0 h1).mono ?_
  rintro e w1 ⟨⟨r, rfl, hr1⟩, hb1⟩
  have hB1 : Below w.heap.size w w1 := b0.trans (hb1.mono b0.size)
  clear hb1 b0
  rcases hr1 with rfl | ⟨hr2, hr3⟩
  · go_wp2
    go_ret
    exact ⟨⟨-1, rfl, .inl rfl⟩, hB1⟩
  · have HR := hide hr3
    have h2 : ¬ (r < 0) := by omega
    clear hr3
    go_wp2
    go_ret
    exact ⟨⟨r, rfl, .inr ⟨hr2, HR.out⟩⟩, hB1⟩

end Go.Proofs.YtjiopefdfkjfkaaDoor
