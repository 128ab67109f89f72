/-
  What the order of facts answers, the tested one and the model's alike: lessF.
-/
import Derived.Test.YtddcmifebhdgfaaFactL
import Derived.Test.YtddcmifebhdgfaaBox2
import Derived.Test.YtddcmifebhdgfaaKeepF
import Derived.Laws.StructEq
import Derived.Deep.RegionHeld3
namespace Go.Proofs.Ytddcmifebhdgfaa
open Go.RowKit
set_option linter.unusedVariables false

set_option maxRecDepth 100000 in
set_option maxHeartbeats 1600000 in
theorem compareFunc_any (a b : Option Addr) (ca cb : Nat) (L M : List V3) (w : World) (hr : RdV w a L) (hq : RdV w b M) (hn : L.length ≤ 1048580) (hm : M.length ≤ 1048580) :
    Calls Try.prog 40 #[.slice a L.length ca, .slice b M.length cb, .func (.func 41) #[] #[]] w fun e w' =>
      (∃ r : Int, e = .returned (.int .i64 r) ∧ (L.length = M.length → decide (r < 0) = lessL L M)) ∧ Below w.heap.size w w' := by
  obtain ⟨n, hN⟩ : ∃ n, n = L.length := ⟨_, rfl⟩
  obtain ⟨m, hM⟩ : ∃ m, m = M.length := ⟨_, rfl⟩
  rw [← hN] at hn ⊢
  rw [← hM] at hm ⊢
  have HN := hide hN
  have HM := hide hM
  clear hN hM
  go_enter Try.func40, Try.ntmps40
  go_wp2
  go_loopw [13] (fun i wr => ∃ (k : Nat), k ≤ n ∧ i = .int .i64 k ∧ (∀ j, j < k → vAt L j = vAt M j) ∧ Below w.heap.size w wr) (fun i _ => n - (intOf i).toNat)
  case atStart => exact ⟨0, Nat.zero_le _, rfl, fun j hj => absurd hj (Nat.not_lt_zero _), Below.refl _ _⟩
  case round =>
    obtain ⟨k, hk, rfl, hall, hbel⟩ := hrel
    have HA := hide hall
    clear hall
    by_cases hlt : k < n
    · obtain ⟨b1, o1, e1, hbw1, hc1⟩ := hr.open (by rw [← HN.out]; omega)
      obtain ⟨c0, c1, c2⟩ := hc1 k (by rw [← HN.out]; exact hlt)
      clear hc1
      subst e1
      rw [← hbel.cell (p := ⟨b1, o1 + k * 3, none⟩) hbw1] at c0
      rw [← hbel.cell (p := ⟨b1, o1 + k * 3 + 1, none⟩) hbw1] at c1
      rw [← hbel.cell (p := ⟨b1, o1 + k * 3 + 2, none⟩) hbw1] at c2
      by_cases hlm : k < m
      · obtain ⟨b2, o2, e2, hbw2, hc2⟩ := hq.open (by rw [← HM.out]; omega)
        obtain ⟨d0, d1, d2⟩ := hc2 k (by rw [← HM.out]; exact hlm)
        clear hc2
        subst e2
        have hbel1 : Below w.heap.size w (wr.alloc (.cells #[.int .i64 (vAt L k).K, .int .i64 (vAt L k).N, .string (vAt L k).S] 43)) := hbel.alloc hbel.size _
        rw [← hbel1.cell (p := ⟨b2, o2 + k * 3, none⟩) hbw2] at d0
        rw [← hbel1.cell (p := ⟨b2, o2 + k * 3 + 1, none⟩) hbw2] at d1
        rw [← hbel1.cell (p := ⟨b2, o2 + k * 3 + 2, none⟩) hbw2] at d2
        have HL := hide (fun h : vAt L k ≠ vAt M k => lessL_at (by rw [← HN.out]; exact hlt) (by rw [← HM.out]; exact hlm) HA.out h)
        have HZ := hide (cmpV_zero (vAt L k) (vAt M k))
        have HC := hide (cmpV_less (vAt L k) (vAt M k))
        have HV := hide (compareVals_any (vAt L k).K (vAt L k).N (vAt L k).S (vAt M k).K (vAt M k).N (vAt M k).S)
        rw [show orI (cmpI (vAt L k).K (vAt M k).K) (cmpI (vAt L k).N (vAt M k).N) (cmpS (vAt L k).S (vAt M k).S) = cmpV (vAt L k) (vAt M k) from rfl] at HV
        generalize cmpV (vAt L k) (vAt M k) = r at HZ HC HV
        go_wp2_with fail
        refine (HV.out _).mono ?_
        rintro e w2 ⟨rfl, hb2⟩
        have hbel2 : Below w.heap.size w w2 := (hbel1.alloc hbel1.size _).trans (hb2.mono (by have := hbel.size; simp; omega))
        clear hb2 hbel1 hbel c0 c1 c2 d0 d1 d2 HV
        by_cases h0 : r = 0
        · have HE := hide (HZ.out.1 h0)
          have hz : (r != 0) = false := by simp [h0]
          clear h0 HZ HC HL
          go_wp2
          go_roundw
          case rel => exact ⟨k + 1, by omega, by go_num, fun j hj => by
              by_cases hjk : j = k
              · rw [hjk]; exact HE.out
              · exact HA.out j (by omega), hbel2⟩
          case measure => simp [intOf]; omega
        · have HE := hide (HC.out.trans (HL.out (fun h => h0 (HZ.out.2 h))).symm)
          have hz : (r != 0) = true := by simpa using h0
          clear h0 HZ HC HL
          go_wp2
          go_ret
          exact ⟨⟨r, rfl, fun _ => HE.out⟩, hbel2⟩
      · have hx : (m : Int) ≤ (k : Int) := by omega
        go_wp2
        go_ret
        exact ⟨⟨1, rfl, fun h => by omega⟩, hbel.alloc hbel.size _⟩
    · have HE : Hid (n = m → decide ((0 : Int) < 0) = lessL L M) := fun h => (lessL_none (fun j hj => HA.out j (by rw [← HN.out] at hj; omega))).symm
      by_cases hlm : n < m
      · go_wp2
        go_ret
        exact ⟨⟨-1, rfl, fun h => by omega⟩, hbel⟩
      · go_wp2
        go_ret
        exact ⟨⟨0, rfl, HE.out⟩, hbel⟩

theorem below_two {w u : World} {o1 o2 : Obj} (hb : Below ((w.alloc o1).alloc o2).heap.size ((w.alloc o1).alloc o2) u) : Below w.heap.size w u :=
  ((below_al w o1).alloc (by simp) o2).trans (hb.mono (by simp; omega))
theorem news3 (w : World) (a b c : Value) (T : TypeId) : (w.alloc (.cells #[a, b, c] T)).cell? ⟨w.heap.size, 0, none⟩ = some a ∧ (w.alloc (.cells #[a, b, c] T)).cell? ⟨w.heap.size, 1, none⟩ = some b ∧ (w.alloc (.cells #[a, b, c] T)).cell? ⟨w.heap.size, 2, none⟩ = some c := by
  obtain ⟨h0, h1, h2, -, -, -⟩ := box_cell (box_new w a b c T)
  exact ⟨h0, h1, h2⟩

set_option maxRecDepth 100000 in
set_option maxHeartbeats 1600000 in
theorem compareFacts_any (kd kd' : ByteArray) (a b : Option Addr) (ca cb : Nat) (L M : List V3) (w : World) (hr : RdV w a L) (hq : RdV w b M) (hn : L.length ≤ 1048580) (hm : M.length ≤ 1048580) :
    Calls Try.prog 19 #[.agg #[.string kd, .slice a L.length ca], .agg #[.string kd', .slice b M.length cb]] w fun e w' =>
      (∃ r : Int, e = .returned (.int .i64 r) ∧ decide (r < 0) = lessF kd L kd' M) ∧ Below w.heap.size w w' := by
  have HF := hide (lessF_of kd kd' L M)
  have b0 := below_al w (.cells #[.string kd, .slice a L.length ca] 26)
  have b1 := b0.alloc b0.size (.cells #[.string kd', .slice b M.length cb] 26)
  have T1 : Two w w.heap.size a b L M ((w.alloc (.cells #[.string kd, .slice a L.length ca] 26)).alloc (.cells #[.string kd', .slice b M.length cb] 26)) := ⟨hr.below b1, hq.below b1, b1, b1.size⟩
  have hX := box_old (box2_new w (.string kd) (.slice a L.length ca) 26) (by simp) (.cells #[.string kd', .slice b M.length cb] 26)
  have hY := box2_new (w.alloc (.cells #[.string kd, .slice a L.length ca] 26)) (.string kd') (.slice b M.length cb) 26
  simp only [World.size_alloc] at hX hY
  obtain ⟨x0, x1, -, -⟩ := box2_cell hX
  obtain ⟨y0, y1, -, -⟩ := box2_cell hY
  clear hX hY b0 b1 hr hq
  go_enter Try.func19, Try.ntmps19
  go_wp2_with fail
  generalize (w.alloc (.cells #[.string kd, .slice a L.length ca] 26)).alloc (.cells #[.string kd', .slice b M.length cb] 26) = w1 at x0 x1 y0 y1 T1 ⊢
  go_region_held3 (fun W => W.cell? ⟨w.heap.size, 0, none⟩ = some (.string kd) ∧ W.cell? ⟨w.heap.size, 1, none⟩ = some (.slice a L.length ca) ∧ W.cell? ⟨w.heap.size + 1, 0, none⟩ = some (.string kd') ∧ W.cell? ⟨w.heap.size + 1, 1, none⟩ = some (.slice b M.length cb) ∧ Two w w.heap.size a b L M W) (first | exact ⟨x0, x1, y0, y1, T1.drew⟩ | exact keepF (by assumption) (by assumption) | exact keepF (W := w1.drew) (below_end hb2 _) ⟨x0, x1, y0, y1, T1.drew⟩)
    (first | (go_at_call 39; refine (cmpInt_any _ _ _).mono ?_; rintro e w' ⟨rfl, rfl⟩) | (go_at_call 38; refine (cmpString_any _ _ _).mono ?_; rintro e w' ⟨rfl, rfl⟩) | (go_at_call 40; refine (compareFunc_any _ _ _ _ _ _ _ (rdA (by assumption)) (rdB (by assumption)) hn hm).mono ?_; rintro e w2 ⟨⟨r, rfl, hr2⟩, hb2⟩) | (go_at_call 37; refine (cmpOr_any _ _ _ _ _ (news3 _ _ _ _ _).1 (news3 _ _ _ _ _).2.1 (news3 _ _ _ _ _).2.2).mono ?_; rintro e w' ⟨rfl, rfl⟩))
  all_goals
    have T2 : Two w w.heap.size a b L M w2 := T1.drew.keep hb2
    have HF2 := hide (HF.out r hr2)
    generalize orI (cmpS kd kd') (cmpI L.length M.length) r = rr at HF2 ⊢
    go_wp2
    go_ret
    exact ⟨⟨_, rfl, HF2.out⟩, T2.2.2.1.alloc T2.2.2.2 _⟩

set_option maxRecDepth 100000 in
set_option maxHeartbeats 1600000 in
theorem implLessFact_any (kd kd' : ByteArray) (a b : Option Addr) (ca cb : Nat) (L M : List V3) (w : World) (hr : RdV w a L) (hq : RdV w b M) (hn : L.length ≤ 1048580) (hm : M.length ≤ 1048580) :
    Calls Try.prog 8 #[.agg #[.string kd, .slice a L.length ca], .agg #[.string kd', .slice b M.length cb]] w fun e w' =>
      e = .returned (.bool (lessF kd L kd' M)) ∧ Below w.heap.size w w' := by
  have b0 := below_al w (.cells #[.string kd, .slice a L.length ca] 26)
  have b1 := b0.alloc b0.size (.cells #[.string kd', .slice b M.length cb] 26)
  go_enter Try.func8, Try.ntmps8
  go_wp2_with fail
  refine (compareFacts_any kd kd' a b ca cb L M _ (hr.below b1) (hq.below b1) hn hm).mono ?_
  rintro e w1 ⟨⟨r, rfl, hr1⟩, hb1⟩
  have hB1 := below_two hb1
  have HR := hide hr1
  clear hb1 hr1 b0 b1
  go_wp2
  go_ret
  exact ⟨ret_bool HR.out, hB1⟩
end Go.Proofs.Ytddcmifebhdgfaa
