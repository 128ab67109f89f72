/-
  What the model's order of facts answers: lessF.
-/
import Derived.Test.YtddcmifebhdgfaaFactLess
namespace Go.Proofs.Ytddcmifebhdgfaa
open Go.RowKit
set_option linter.unusedVariables false

theorem two_drewN {w0 W : World} {B : Nat} {a b : Option Addr} {L M : List V3} (h : Two w0 B a b L M W) (n : Nat) : Two w0 B a b L M (W.drewN n) :=
  ⟨h.1.heap rfl, h.2.1.heap rfl, ⟨h.2.2.1.1, h.2.2.1.2, h.2.2.1.3, h.2.2.1.4, h.2.2.1.5⟩, h.2.2.2⟩

theorem below_dnL {w u : World} {n : Nat} (k : Below (w.drewN n).heap.size (w.drewN n) u) : Below w.heap.size w u :=
  (show Below w.heap.size w (w.drewN n) from ⟨rfl, rfl, rfl, Nat.le_refl _, fun _ _ => rfl⟩).trans k
theorem keep8 {W w' : World} {a0 a1 a2 a3 a4 a5 a6 a7 : Addr} {v0 v1 v2 v3 v4 v5 v6 v7 : Value} (hb : Below W.heap.size W w')
    (h : W.cell? a0 = some v0 ∧ W.cell? a1 = some v1 ∧ W.cell? a2 = some v2 ∧ W.cell? a3 = some v3 ∧ W.cell? a4 = some v4 ∧ W.cell? a5 = some v5 ∧ W.cell? a6 = some v6 ∧ W.cell? a7 = some v7) :
    w'.cell? a0 = some v0 ∧ w'.cell? a1 = some v1 ∧ w'.cell? a2 = some v2 ∧ w'.cell? a3 = some v3 ∧ w'.cell? a4 = some v4 ∧ w'.cell? a5 = some v5 ∧ w'.cell? a6 = some v6 ∧ w'.cell? a7 = some v7 := by
  obtain ⟨h0, h1, h2, h3, h4, h5, h6, h7⟩ := h
  have k : ∀ {a : Addr} {v : Value}, W.cell? a = some v → w'.cell? a = some v := fun {a v} h => by rw [hb.cell (World.block_lt_of_cell? W _ h)]; exact h
  exact ⟨k h0, k h1, k h2, k h3, k h4, k h5, k h6, k h7⟩

set_option maxRecDepth 100000 in
set_option maxHeartbeats 3200000 in
theorem specLessFact_any (kd kd' : ByteArray) (a b : Option Addr) (ca cb : Nat) (L M : List V3) (w : World) (hr : RdV w a L) (hq : RdV w b M) (hn : L.length ≤ 1048580) (hm : M.length ≤ 1048580) :
    Calls Try.prog 10 #[.agg #[.string kd, .slice a L.length ca], .agg #[.string kd', .slice b M.length cb]] w fun e w' =>
      e = .returned (.bool (lessF kd L kd' M)) ∧ Below w.heap.size w w' := by
  have HF : Hid (lessF kd L kd' M = if kd.toList != kd'.toList then Op.bytesLess kd.toList kd'.toList else if ((L.length : Int) != (M.length : Int)) then decide ((L.length : Int) < (M.length : Int)) else lessL L M) := rfl
  have b0 := below_al w (.cells #[.string kd, .slice a L.length ca] 26)
  have b1 := b0.alloc b0.size (.cells #[.string kd', .slice b M.length cb] 26)
  have T1 := hide (show Two w w.heap.size a b L M ((w.alloc (.cells #[.string kd, .slice a L.length ca] 26)).alloc (.cells #[.string kd', .slice b M.length cb] 26)) from ⟨hr.below b1, hq.below b1, b1, b1.size⟩)
  have hX := hide (box_old (box2_new w (.string kd) (.slice a L.length ca) 26) (by simp) (.cells #[.string kd', .slice b M.length cb] 26))
  have hY := hide (box2_new (w.alloc (.cells #[.string kd, .slice a L.length ca] 26)) (.string kd') (.slice b M.length cb) 26)
  simp only [World.size_alloc] at hX hY
  clear b0 b1 hr hq
  cases h1 : (kd.toList == kd'.toList)
  · have h1' : (kd.toList != kd'.toList) = true := by rw [bne, h1]; rfl
    rw [h1'] at HF
    clear h1'
    go_enter Try.func10, Try.ntmps10
    go_wp2
    go_ret
    exact ⟨ret_bool HF.out.symm, T1.out.2.2.1⟩
  · have h1' : (kd.toList != kd'.toList) = false := by rw [bne, h1]; rfl
    rw [h1'] at HF
    clear h1'
    cases h2 : ((L.length : Int) != (M.length : Int))
    · rw [h2] at HF
      have hlm : M.length = L.length := by simp at h2; omega
      rw [hlm] at hX hY T1 h2 ⊢
      obtain ⟨n, hN⟩ : ∃ n, n = L.length := ⟨_, rfl⟩
      rw [hlm] at hm
      rw [← hN] at hn hm hX hY T1 h2 ⊢
      have HN := hide hN
      have HM := hide (hN.trans hlm.symm)
      clear hN hlm
      go_enter Try.func10, Try.ntmps10
      go_wp2
      generalize (w.alloc (.cells #[.string kd, .slice a n ca] 26)).alloc (.cells #[.string kd', .slice b n cb] 26) = w1 at hX hY T1 ⊢
      go_loopw [5] (fun i wr => ∃ (k nd : Nat), k ≤ n ∧ i = .int .i64 k ∧ wr = w1.drewN nd ∧ (∀ j, j < k → vAt L j = vAt M j)) (fun i _ => n - (intOf i).toNat)
      case atStart => exact ⟨0, 0, Nat.zero_le _, rfl, rfl, fun j hj => absurd hj (Nat.not_lt_zero _)⟩
      case round =>
        obtain ⟨k, nd, hk, rfl, rfl, hall⟩ := hrel
        have HA := hide hall
        clear hall
        obtain ⟨x0, x1, -, -⟩ := box2_cell hX.out
        obtain ⟨y0, y1, -, -⟩ := box2_cell hY.out
        by_cases hlt : k < n
        · obtain ⟨b1, o1, e1, -, hc1⟩ := T1.out.1.open (by rw [← HN.out]; omega)
          obtain ⟨b2, o2, e2, -, hc2⟩ := T1.out.2.1.open (by rw [← HM.out]; omega)
          obtain ⟨c0, c1, c2⟩ := hc1 k (by rw [← HN.out]; exact hlt)
          obtain ⟨d0, d1, d2⟩ := hc2 k (by rw [← HM.out]; exact hlt)
          have l1 : (k : Int) < (n : Int) := by omega
          clear hc1 hc2
          subst e1 e2
          rcases v3_cases (vAt L k) (vAt M k) with hv | ⟨hne, hv⟩
          · have HV := hide hv
            rw [← hv] at d0 d1 d2
            clear hv
            have k1 : ((vAt L k).K == (vAt L k).K) = true := by simp
            have k2 : ((vAt L k).N == (vAt L k).N) = true := by simp
            have k3 : ((vAt L k).S.toList == (vAt L k).S.toList) = true := by simp
            go_wp2
            go_quiet (fail)
            go_wp2
            go_roundw
            case rel => exact ⟨k + 1, _, by omega, by go_num, rfl, fun j hj => by
              by_cases hjk : j = k
              · rw [hjk]; exact HV.out
              · exact HA.out j (by omega)⟩
            case measure => simp [intOf]; omega
          · have HL := hide (HF.out.trans (lessL_at (by rw [← HN.out]; exact hlt) (by rw [← HM.out]; exact hlt) HA.out hne))
            have HV := hide (specLessVal_any (vAt L k).K (vAt L k).N (vAt L k).S (vAt M k).K (vAt M k).N (vAt M k).S)
            rw [show (lessB (vAt L k).K (vAt L k).N (vAt L k).S (vAt M k).K (vAt M k).N (vAt M k).S) = (vAt L k).less (vAt M k) from rfl] at HV
            generalize (vAt L k).less (vAt M k) = r at HL HV
            have T2 := hide (two_drewN T1.out nd)
            clear hne
            rcases hv with k1 | ⟨k1, k2⟩ | ⟨k1, k2, k3⟩
            all_goals
              go_wp2
              go_quiet (fail)
              go_wp2_with fail
              go_region_held3 (fun W => W.cell? ⟨w.heap.size, 1, none⟩ = some (.slice (some ⟨b1, o1, none⟩) n ca) ∧ W.cell? ⟨w.heap.size + 1, 1, none⟩ = some (.slice (some ⟨b2, o2, none⟩) n cb) ∧ W.cell? ⟨b1, o1 + k * 3, none⟩ = some (.int .i64 (vAt L k).K) ∧ W.cell? ⟨b1, o1 + k * 3 + 1, none⟩ = some (.int .i64 (vAt L k).N) ∧ W.cell? ⟨b1, o1 + k * 3 + 2, none⟩ = some (.string (vAt L k).S) ∧ W.cell? ⟨b2, o2 + k * 3, none⟩ = some (.int .i64 (vAt M k).K) ∧ W.cell? ⟨b2, o2 + k * 3 + 1, none⟩ = some (.int .i64 (vAt M k).N) ∧ W.cell? ⟨b2, o2 + k * 3 + 2, none⟩ = some (.string (vAt M k).S)) (first | exact ⟨x1, y1, c0, c1, c2, d0, d1, d2⟩ | exact keep8 (below_dnL hb2) ⟨x1, y1, c0, c1, c2, d0, d1, d2⟩)
                (first | (go_at_call 23; refine (HV.out _).mono ?_; rintro e w2 ⟨rfl, hb2⟩))
              all_goals
                have hB2 : Below w.heap.size w w2 := T1.out.2.2.1.trans ((below_dnL hb2).mono T1.out.2.2.2)
                go_wp2
                go_ret
                exact ⟨ret_bool HL.out.symm, hB2⟩
        · have HE := hide (HF.out.trans (lessL_none (fun j hj => HA.out j (by rw [← HN.out] at hj; omega))))
          have T2 := hide (two_drewN T1.out nd)
          go_wp2
          go_ret
          exact ⟨ret_bool HE.out.symm, T2.out.2.2.1⟩
    · rw [h2] at HF
      have HD : Hid (decide (L.length < M.length) = lessF kd L kd' M) := (decide_eq_decide.2 (by omega)).trans HF.out.symm
      go_enter Try.func10, Try.ntmps10
      go_wp2
      go_ret
      exact ⟨ret_bool HD.out, T1.out.2.2.1⟩
end Go.Proofs.Ytddcmifebhdgfaa
