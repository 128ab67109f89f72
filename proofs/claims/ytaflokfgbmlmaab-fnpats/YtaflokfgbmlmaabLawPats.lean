/-
  Proved: for every row of bytes, the law on what patterns bind answers true (a drawn pattern that matches a fact binds each of its variables to what the fact has there; what was bound stays first), and the row reads as it did. No condition.
-/
import Derived.Test.YtaflokfgbmlmaabMatchQ
import Derived.Test.YtaflokfgbmlmaabMatchS
import Derived.Test.YtaflokfgbmlmaabDrawFit
import Derived.Test.YtaflokfgbmlmaabRows
import Derived.ProofKit
import Derived.OpenShut
import Derived.ShutString
import Derived.ChangeOld
import Derived.Below
namespace Go.Proofs.Ytaflokfgbmlmaab.LawPats
open Go.ChangeShapes Go.WideShapes Go.ChangeAt Go.RowKit
open Go.ChangeMaps (open_string shut_string)
set_option linter.unusedVariables false

set_option maxHeartbeats 400000 in
theorem big_any (a : Option Addr) (len cap : Nat) (w : World) (h : len ≤ 9223372036854775807) :
    Calls Try.prog 25 #[.slice a len cap] w fun e w' => e = .returned (.bool (decide ((1048576 : Int) < (len : Int)))) ∧ w' = w := by
  go_enter Try.func25, Try.ntmps25
  go_wp2
  go_ret
  exact ⟨rfl, rfl⟩
theorem below_dn {w u : World} {n : Nat} (k : Below (w.drewN n).heap.size (w.drewN n) u) : Below w.heap.size w u :=
  (show Below w.heap.size w (w.drewN n) from ⟨rfl, rfl, rfl, Nat.le_refl _, fun _ _ => rfl⟩).trans k

set_option maxRecDepth 100000 in
set_option maxHeartbeats 1600000 in
theorem sameBinds_same (a b : Option Addr) (n ca cb : Nat) (M : List B4) (w : World) (hz : M.length = n) (hr : RdBind w a M) (hq : RdBind w b M) (hn : n ≤ 1048580) :
    Calls Try.prog 29 #[.slice a n ca, .slice b n cb] w fun e w' => e = .returned (.bool true) ∧ Below w.heap.size w w' := by
  have HZ := hide hz
  clear hz
  have hnn : ((n : Int) != (n : Int)) = false := by simp
  go_enter Try.func29, Try.ntmps29
  go_wp2
  go_loopw [5] (fun i wr => ∃ (k nd : Nat), k ≤ n ∧ i = .int .i64 k ∧ wr = w.drewN nd) (fun i _ => n - (intOf i).toNat)
  case atStart => exact ⟨0, 0, Nat.zero_le _, rfl, rfl⟩
  case round =>
    obtain ⟨k, nd, hk, rfl, rfl⟩ := hrel
    by_cases hlt : k < n
    · obtain ⟨b1, o1, e1, -, hc1⟩ := RdBind.cells hr (by rw [HZ.out]; omega)
      obtain ⟨b2, o2, e2, -, hc2⟩ := RdBind.cells hq (by rw [HZ.out]; omega)
      obtain ⟨c0, c1, c2, c3⟩ := hc1 k (by rw [HZ.out]; exact hlt)
      obtain ⟨d0, d1, d2, d3⟩ := hc2 k (by rw [HZ.out]; exact hlt)
      have l1 : (k : Int) < (n : Int) := by omega
      clear hc1 hc2
      subst e1 e2
      generalize (eAt M k).N = N at c0 d0
      generalize (eAt M k).V.K = VK at c1 d1
      generalize (eAt M k).V.N = VN at c2 d2
      generalize (eAt M k).V.S = VS at c3 d3
      have k1 : (N.toList == N.toList) = true := by simp
      have k2 : (VK == VK) = true := by simp
      have k3 : (VN == VN) = true := by simp
      have k4 : (VS.toList == VS.toList) = true := by simp
      go_wp2
      go_quiet (fail)
      go_wp2
      go_roundw
      case rel => exact ⟨k + 1, _, by omega, by go_num, rfl⟩
      case measure => simp [intOf]; omega
    · go_wp2
      go_ret
      exact ⟨rfl, below_dn (Below.refl _ _)⟩

set_option maxRecDepth 100000 in
set_option maxHeartbeats 12800000 in
theorem law (a : Option Addr) (cap : Nat) (code : List UInt8) (w : World) (hr : Rd w a code) (hm : code.length ≤ maxLen) :
    Calls Try.prog 6 #[.slice a code.length cap] w fun e w' => e = .returned (.bool true) ∧ Below w.heap.size w w' := by
  unfold maxLen at hm
  by_cases hb : 1048576 < code.length
  · have hd : decide ((1048576 : Int) < (code.length : Int)) = true := by simp; omega
    go_enter Try.func6, Try.ntmps6
    go_wp2_with (go_at_call 25; refine (big_any _ _ _ _ (by omega)).mono ?_; rintro e w' ⟨rfl, rfl⟩)
    go_ret
    exact ⟨rfl, Below.refl _ _⟩
  · have hd : decide ((1048576 : Int) < (code.length : Int)) = false := by simp; omega
    go_enter Try.func6, Try.ntmps6
    go_wp2_with fail
    refine (big_any _ _ _ _ (by omega)).mono ?_
    rintro e w' ⟨rfl, rfl⟩
    go_wp2_with fail
    refine (drawFitting_any a cap code w' hr (by omega)).mono ?_
    rintro e w1 ⟨kd, a1, c1, L, a2, c2, F, g0, c0, M0, rfl, hL, hF, hM, sL, sF, sM, rL, rF, rM, hcap, B1⟩
    clear hd
    have HsL := hide sL
    have HsF := hide sF
    have HsM := hide sM
    clear sL sF sM
    have HI := hide (fun W a3 c3 (M : List B4) (h1 : RdArg W a1 L) (h2 : RdV W a2 F) (h3 : RdBind W a3 M) (h4 : M.length ≤ c3) (hs : ∀ x ∈ M, x.small) (hn : M.length ≤ 10) => implMatchPat_any kd a1 c1 L false kd a2 c2 F a3 c3 M W h1 h2 h3 h4 HsL.out HsF.out hs (by omega) (by omega))
    have HSp := hide (fun W a3 c3 (h1 : RdArg W a1 L) (h2 : RdV W a2 F) (h3 : RdBind W a3 M0) => specMatchPat_any kd a1 c1 L false kd a2 c2 F a3 c3 M0 W h1 h2 h3 (by omega) (by omega))
    have HCase := hide (matchR_cases kd kd L F M0)
    have HSm := hide (matchR_small kd kd HsM.out HsL.out HsF.out)
    have hrl := matchR_len_le kd kd L F M0
    have HI0 := hide (fun W a3 c3 h1 h2 h3 h4 => HI.out W a3 c3 M0 h1 h2 h3 h4 HsM.out (by omega))
    generalize hrr : matchR kd kd L F M0 = r at HI0 HSp HCase HSm hrl
    obtain ⟨R, bb⟩ := r
    simp only at HSm hrl
    clear hrr
    have b2 := B1.alloc B1.size (.cells #[.string kd, .slice a1 L.length c1, .bool false] 55)
    have b3 := b2.alloc b2.size (.cells #[.string kd, .slice a2 F.length c2] 29)
    have hP := box_old (boxk_new w1 #[.string kd, .slice a1 L.length c1, .bool false] 55) (by simp) (.cells #[.string kd, .slice a2 F.length c2] 29)
    have hQ := boxk_new (w1.alloc (.cells #[.string kd, .slice a1 L.length c1, .bool false] 55)) #[.string kd, .slice a2 F.length c2] 29
    simp only [World.size_alloc] at hQ
    have bb1 := (below_al w1 (.cells #[.string kd, .slice a1 L.length c1, .bool false] 55))
    have bb2 := bb1.alloc bb1.size (.cells #[.string kd, .slice a2 F.length c2] 29)
    have rL2 := rL.below bb2
    have rF2 := rF.below bb2
    have rM2 := rM.below bb2
    clear bb1 bb2 rL rF rM b2 B1
    go_wp2_with fail
    refine (HI0.out _ _ _ rL2 rF2 rM2 hcap).mono ?_
    generalize (w1.alloc (.cells #[.string kd, .slice a1 L.length c1, .bool false] 55)).alloc (.cells #[.string kd, .slice a2 F.length c2] 29) = w2 at b3 hP hQ rL2 rF2 rM2
    rintro e w3 ⟨g3, c3, rfl, hg3, o3, hb3⟩
    have HP3 := hide (box_step hP hb3)
    have HQ3 := hide (box_step hQ hb3)
    have rL3 := rL2.below hb3
    have rF3 := rF2.below hb3
    have rM3 := rM2.below hb3
    have Bl3 : Below w'.heap.size w' w3 := b3.trans (hb3.mono b3.size)
    clear hb3 b3 hP hQ rL2 rF2 rM2 HI0
    obtain ⟨p0, p1, p2, -, -, -⟩ := box_cell HP3.out
    obtain ⟨q0, q1, -, -⟩ := box2_cell HQ3.out
    go_wp2_with fail
    refine (HSp.out _ _ _ rL3 rF3 rM3).mono ?_
    rintro e w4 ⟨g4, c4, rfl, hg4, o4, hb4⟩
    have HP4 := hide (box_step HP3.out hb4)
    have HQ4 := hide (box_step HQ3.out hb4)
    have rL4 := rL3.below hb4
    have rF4 := rF3.below hb4
    have rM4 := rM3.below hb4
    have ox4 := o3.later hb4
    have Bl4 : Below w'.heap.size w' w4 := Bl3.trans (hb4.mono Bl3.size)
    clear hb4 Bl3 HP3 HQ3 rL3 rF3 rM3 o3 o4 p0 p1 p2 q0 q1 HSp
    cases bb
    · have hR : R = M0 := by
        rcases HCase.out with h | ⟨-, -, M, -, h⟩
        · simpa using h
        · simp at h
      subst hR
      go_wp2_with fail
      refine (sameBinds_same _ _ _ _ _ R _ rfl (rdOwnBind ox4) rM4 (by omega)).mono ?_
      rintro e w5 ⟨rfl, hb5⟩
      have B5 : Below w'.heap.size w' w5 := Bl4.trans (hb5.mono Bl4.size)
      go_wp2
      go_ret
      exact ⟨rfl, B5⟩
    · obtain ⟨hl, hK⟩ : L.length = F.length ∧ matchK L F M0 L.length = some R := by
        rcases HCase.out with h | ⟨-, hl, M, hM, h⟩
        · simp at h
        · simp only [Prod.mk.injEq, and_true] at h
          rw [h]; exact ⟨hl, hM⟩
      obtain ⟨⟨N, hN⟩, hfit⟩ := matchK_fits hK
      have HFit := hide hfit
      have HAgain := hide (show matchR kd kd L F R = (R, true) from matchR_yes hl (matchK_again hfit L.length (Nat.le_refl _)))
      have HPre := hide hN
      have hMR : M0.length ≤ R.length := by rw [hN]; simp
      have HL := hide hl
      clear hK hfit hN HCase
      have hz1 : w1.heap.size + 1 < w4.heap.size := (Array.getElem?_eq_some_iff.1 HQ4.out).1
      have hcx := ox4.cap
      have HI1 := hide (fun W h1 h2 h3 => HI.out W (some ⟨g3, 0, none⟩) c3 R h1 h2 h3 hcx HSm.out (by omega))
      rw [HAgain.out] at HI1
      have HBO := hide (fun W S (h : RdBind W (some ⟨g3, 0, none⟩) R) => implBindOf_any (some ⟨g3, 0, none⟩) c3 R S W h HSm.out (by omega))
      obtain ⟨n, hN⟩ : ∃ n, n = L.length := ⟨_, rfl⟩
      have hFn : F.length = n := by rw [hN, HL.out]
      rw [hFn] at HQ4 HI1
      rw [← hN] at HP4 HI1
      have hn2 : n ≤ 2 := by rw [hN]; exact hL
      have HN := hide hN
      have HFn := hide hFn
      rw [hFn, ← hN]
      clear HI HAgain HL hN hFn
      go_wp2
      go_loopw [10] (fun i wr => ∃ (k : Nat), k ≤ n ∧ i = .int .i64 k ∧ Below w4.heap.size w4 wr) (fun i _ => n - (intOf i).toNat)
      case atStart => exact ⟨0, Nat.zero_le _, rfl, Below.refl _ _⟩
      case round =>
        obtain ⟨k, hk, rfl, hbel⟩ := hrel
        have p1 := boxk_cell (box_below HP4.out hbel (by omega)) 1 _ rfl
        by_cases hlt : k < n
        · have HLt : Hid (k + 1 ≤ n) := hlt
          obtain ⟨b, off, hab, hbw, hc⟩ := RdArg.cells (rL4.below hbel) (by rw [← HN.out]; omega)
          obtain ⟨e0, e1, e2, e3, e4⟩ := hc k (by rw [← HN.out]; exact hlt)
          obtain ⟨b', off', hab', hbw', hd⟩ := (rF4.below hbel).open (by rw [HFn.out]; omega)
          obtain ⟨d0, d1, d2⟩ := hd k (by rw [HFn.out]; exact hlt)
          clear hc hd
          have hfit := HFit.out k (by rw [← HN.out]; exact hlt)
          generalize eAt L k = x at e0 e1 e2 e3 e4 hfit
          generalize vAt F k = u at d0 d1 d2 hfit
          obtain ⟨K, S, V⟩ := x
          simp only at e0 e1 e2 e3 e4
          have HF1 := hide hfit.1
          have HF2 := hide hfit.2
          clear hfit
          subst hab hab'
          go_wp2_with fail
          refine (HBO.out _ S ((rdOwnBind ox4).below hbel)).mono ?_
          rintro e w5 ⟨rfl, hb5⟩
          have hB5 : Below w4.heap.size w4 w5 := hbel.trans (hb5.mono hbel.size)
          have HP5 := hide (box_below HP4.out hB5 (by omega))
          have HQ5 := hide (box_below HQ4.out hB5 (by omega))
          have hz5 := hB5.size
          replace e0 := keptB hb5 e0
          replace e1 := keptB hb5 e1
          replace e2 := keptB hb5 e2
          replace e3 := keptB hb5 e3
          replace e4 := keptB hb5 e4
          replace d0 := keptB hb5 d0
          replace d1 := keptB hb5 d1
          replace d2 := keptB hb5 d2
          clear hb5 hbel p1
          by_cases h1 : K = 1
          · subst h1
            rw [HF1.out rfl]
            simp only [bindA]
            have k1 : (u.K == u.K) = true := by simp
            have k2 : (u.N == u.N) = true := by simp
            have k3 : (u.S.toList == u.S.toList) = true := by simp
            have p1' := boxk_cell (box_old HP5.out (by omega) (.cells #[.int .i64 u.K, .int .i64 u.N, .string u.S] 63)) 1 _ rfl
            have q1' := boxk_cell (box_old HQ5.out (by omega) (.cells #[.int .i64 u.K, .int .i64 u.N, .string u.S] 63)) 1 _ rfl
            have e0' := keptB (below_al w5 (.cells #[.int .i64 u.K, .int .i64 u.N, .string u.S] 63)) e0
            have e1' := keptB (below_al w5 (.cells #[.int .i64 u.K, .int .i64 u.N, .string u.S] 63)) e1
            have e2' := keptB (below_al w5 (.cells #[.int .i64 u.K, .int .i64 u.N, .string u.S] 63)) e2
            have e3' := keptB (below_al w5 (.cells #[.int .i64 u.K, .int .i64 u.N, .string u.S] 63)) e3
            have e4' := keptB (below_al w5 (.cells #[.int .i64 u.K, .int .i64 u.N, .string u.S] 63)) e4
            have d0' := keptB (below_al w5 (.cells #[.int .i64 u.K, .int .i64 u.N, .string u.S] 63)) d0
            have d1' := keptB (below_al w5 (.cells #[.int .i64 u.K, .int .i64 u.N, .string u.S] 63)) d1
            have d2' := keptB (below_al w5 (.cells #[.int .i64 u.K, .int .i64 u.N, .string u.S] 63)) d2
            obtain ⟨y0, y1, y2, -, -, -⟩ := box_cell (boxk_new w5 #[.int .i64 u.K, .int .i64 u.N, .string u.S] 63)
            clear e0 e1 e2 e3 e4 d0 d1 d2
            have hBd := (hB5.alloc hB5.size (.cells #[.int .i64 u.K, .int .i64 u.N, .string u.S] 63))
            go_wp2_with fail
            generalize w5.alloc (.cells #[.int .i64 u.K, .int .i64 u.N, .string u.S] 63) = w6 at p1' q1' e0' e1' e2' e3' e4' d0' d1' d2' hBd y0 y1 y2
            have HBd := hide (fun d => (show Below w4.heap.size w4 (w6.drewN d) from hBd.trans ⟨rfl, rfl, rfl, Nat.le_refl _, fun _ _ => rfl⟩))
            clear hBd
            go_quiet (fail)
            go_wp2
            go_roundw
            case rel => exact ⟨k + 1, HLt.out, by go_num, HBd.out _⟩
            case measure => have := HLt.out; simp [intOf]; omega
          · have kk1 : (K == 1) = false := by simpa using h1
            obtain ⟨bK, bN, bS, bt, hA⟩ := bindA_form (bindO R S)
            rw [hA]
            clear hA
            by_cases h2 : K = 2
            · subst h2
              have hV : V = u := HF2.out rfl
              subst hV
              clear HF1 HF2
              have k1 : (V.K == V.K) = true := by simp
              have k2 : (V.N == V.N) = true := by simp
              have k3 : (V.S.toList == V.S.toList) = true := by simp
              have p1' := boxk_cell (box_old HP5.out (by omega) (.cells #[.int .i64 bK, .int .i64 bN, .string bS] 63)) 1 _ rfl
              have q1' := boxk_cell (box_old HQ5.out (by omega) (.cells #[.int .i64 bK, .int .i64 bN, .string bS] 63)) 1 _ rfl
              have e0' := keptB (below_al w5 (.cells #[.int .i64 bK, .int .i64 bN, .string bS] 63)) e0
              have e1' := keptB (below_al w5 (.cells #[.int .i64 bK, .int .i64 bN, .string bS] 63)) e1
              have e2' := keptB (below_al w5 (.cells #[.int .i64 bK, .int .i64 bN, .string bS] 63)) e2
              have e3' := keptB (below_al w5 (.cells #[.int .i64 bK, .int .i64 bN, .string bS] 63)) e3
              have e4' := keptB (below_al w5 (.cells #[.int .i64 bK, .int .i64 bN, .string bS] 63)) e4
              have d0' := keptB (below_al w5 (.cells #[.int .i64 bK, .int .i64 bN, .string bS] 63)) d0
              have d1' := keptB (below_al w5 (.cells #[.int .i64 bK, .int .i64 bN, .string bS] 63)) d1
              have d2' := keptB (below_al w5 (.cells #[.int .i64 bK, .int .i64 bN, .string bS] 63)) d2
              obtain ⟨y0, y1, y2, -, -, -⟩ := box_cell (boxk_new w5 #[.int .i64 bK, .int .i64 bN, .string bS] 63)
              clear e0 e1 e2 e3 e4 d0 d1 d2
              have hBd := (hB5.alloc hB5.size (.cells #[.int .i64 bK, .int .i64 bN, .string bS] 63))
              go_wp2_with fail
              generalize w5.alloc (.cells #[.int .i64 bK, .int .i64 bN, .string bS] 63) = w6 at p1' q1' e0' e1' e2' e3' e4' d0' d1' d2' hBd y0 y1 y2
              have HBd := hide (fun d => (show Below w4.heap.size w4 (w6.drewN d) from hBd.trans ⟨rfl, rfl, rfl, Nat.le_refl _, fun _ _ => rfl⟩))
              clear hBd
              go_quiet (fail)
              go_wp2
              go_roundw
              case rel => exact ⟨k + 1, HLt.out, by go_num, HBd.out _⟩
              case measure => have := HLt.out; simp [intOf]; omega
            · have kk2 : (K == 2) = false := by simpa using h2
              clear HF1 HF2 h1 h2
              have p1' := boxk_cell (box_old HP5.out (by omega) (.cells #[.int .i64 bK, .int .i64 bN, .string bS] 63)) 1 _ rfl
              have q1' := boxk_cell (box_old HQ5.out (by omega) (.cells #[.int .i64 bK, .int .i64 bN, .string bS] 63)) 1 _ rfl
              have e0' := keptB (below_al w5 (.cells #[.int .i64 bK, .int .i64 bN, .string bS] 63)) e0
              have e1' := keptB (below_al w5 (.cells #[.int .i64 bK, .int .i64 bN, .string bS] 63)) e1
              have e2' := keptB (below_al w5 (.cells #[.int .i64 bK, .int .i64 bN, .string bS] 63)) e2
              have e3' := keptB (below_al w5 (.cells #[.int .i64 bK, .int .i64 bN, .string bS] 63)) e3
              have e4' := keptB (below_al w5 (.cells #[.int .i64 bK, .int .i64 bN, .string bS] 63)) e4
              have d0' := keptB (below_al w5 (.cells #[.int .i64 bK, .int .i64 bN, .string bS] 63)) d0
              have d1' := keptB (below_al w5 (.cells #[.int .i64 bK, .int .i64 bN, .string bS] 63)) d1
              have d2' := keptB (below_al w5 (.cells #[.int .i64 bK, .int .i64 bN, .string bS] 63)) d2
              obtain ⟨y0, y1, y2, -, -, -⟩ := box_cell (boxk_new w5 #[.int .i64 bK, .int .i64 bN, .string bS] 63)
              clear e0 e1 e2 e3 e4 d0 d1 d2
              have hBd := (hB5.alloc hB5.size (.cells #[.int .i64 bK, .int .i64 bN, .string bS] 63))
              go_wp2_with fail
              generalize w5.alloc (.cells #[.int .i64 bK, .int .i64 bN, .string bS] 63) = w6 at p1' q1' e0' e1' e2' e3' e4' d0' d1' d2' hBd y0 y1 y2
              have HBd := hide (fun d => (show Below w4.heap.size w4 (w6.drewN d) from hBd.trans ⟨rfl, rfl, rfl, Nat.le_refl _, fun _ _ => rfl⟩))
              clear hBd
              go_quiet (fail)
              go_wp2
              go_roundw
              case rel => exact ⟨k + 1, HLt.out, by go_num, HBd.out _⟩
              case measure => have := HLt.out; simp [intOf]; omega
        · have p0 := boxk_cell (box_below HP4.out hbel (by omega)) 0 _ rfl
          have p2 := boxk_cell (box_below HP4.out hbel (by omega)) 2 _ rfl
          have q0 := boxk_cell (box_below HQ4.out hbel (by omega)) 0 _ rfl
          have q1 := boxk_cell (box_below HQ4.out hbel (by omega)) 1 _ rfl
          have Blr : Below w'.heap.size w' wr := Bl4.trans (hbel.mono Bl4.size)
          go_wp2_with fail
          refine (HI1.out _ (rL4.below hbel) (rF4.below hbel) ((rdOwnBind ox4).below hbel)).mono ?_
          rintro e w5 ⟨g5, c5, rfl, hg5, o5, hb5⟩
          have hB5 : Below w4.heap.size w4 w5 := hbel.trans (hb5.mono hbel.size)
          have Bl5 : Below w'.heap.size w' w5 := Blr.trans (hb5.mono Blr.size)
          have rx5 := (rdOwnBind ox4).below hB5
          have rm5 := rM4.below hB5
          clear hb5 hB5 hbel p0 p1 p2 q0 q1 Blr
          go_wp2_with fail
          refine (sameBinds_same _ _ _ _ _ R _ rfl rx5 (rdOwnBind o5) (by omega)).mono ?_
          rintro e w6 ⟨rfl, hb6⟩
          have Bl6 : Below w'.heap.size w' w6 := Bl5.trans (hb6.mono Bl5.size)
          have rx6 := rx5.below hb6
          have rm6 := rm5.below hb6
          clear hb6 Bl5 rx5 rm5 o5
          have hge : (M0.length : Int) ≤ (R.length : Int) := by omega
          have hcc : M0.length ≤ c3 := by omega
          have rp6 : RdBind w6 (some ⟨g3, 0, none⟩) M0 := by
            have := rx6
            rw [HPre.out] at this
            exact RdK.take this
          go_wp2_with fail
          refine (sameBinds_same _ _ _ _ _ M0 _ rfl rp6 rm6 (by omega)).mono ?_
          rintro e w7 ⟨rfl, hb7⟩
          have Bl7 : Below w'.heap.size w' w7 := Bl6.trans (hb7.mono Bl6.size)
          go_wp2
          go_ret
          exact ⟨rfl, Bl7⟩

theorem walk (a0 : Option Addr) (len0 cap0 : Nat) (z0 : List Int) (w : World) (w0 : IsRow .u8 w a0 len0 cap0 z0) :
    Calls Try.prog 6 #[.slice a0 len0 cap0] w fun e w' => e = .returned (.bool true) ∧ Below w.heap.size w w' := by
  obtain ⟨bs, hl, hr⟩ := rd_row w0
  have hm : len0 ≤ maxLen := isRow_len w0
  subst hl
  exact law a0 cap0 bs w hr hm

theorem own : ownKnob Try.prog.godebug = none := by kernel_rfl
theorem laidOut : laidOutB Try.prog = true := by kernel_rfl

set_option maxRecDepth 100000 in
theorem lifted (os : Os) (started : os.Started) (H : Type) (enc : TypeId × Value → H) :
    ReturnsInHanded {} Try.checked os 6 .any (Rows.fnPatsSpec.pre6 enc Try.prog Try.f6 Rows.fnPatsRow.domain false) (Rows.fnPatsSpec.post enc Try.prog Try.f6 false true false false) := by
  refine returnsInHanded_of_change (C := Try.checked) own started (by kernel_rfl) Try.func6
    (ChangeSpec.witness6 (enc := enc) (C := Try.checked) false ⟨#[], #[.slice none 0 0], []⟩ 8 (by kernel_rfl) (by kernel_rfl) (by kernel_rfl) (by kernel_rfl)) ?_
  intro W base args ds gs before hval0 hW hcnd _
  have hval : ∀ (j : Nat) t v, Try.f6.params[j]? = some t → args[j]? = some v → Value.okWide Try.prog W .any base t v := hval0
  have hW' := hW
  obtain ⟨p, q, hA0, hV, rfl, hfz, hnd⟩ := hW
  have hA : DataW.TrodAll enc Try.prog W 0 (fun _ => true) true Try.f6.params.toList args.toList ds p := hA0
  rw [Try.params6] at hA hval
  obtain ⟨v0, vs0, d0, ds0, p0, q0, hargs, rfl, rfl, h0, r0⟩ := trodAll_cons hA
  obtain ⟨rfl, rfl, rfl⟩ := trodAll_nil r0
  obtain rfl : args = #[v0] := by cases args; simp_all
  obtain ⟨rfl, rfl⟩ := trodVars_none hV
  obtain ⟨a0, len0, cap0, rfl⟩ := okWide_slice Try.underlying44 (hval 0 44 v0 rfl rfl)
  have k0 := h0
  have lt0 : ∀ x ∈ p0, x.block < W.heap.size := by obtain ⟨m, hm⟩ := k0; exact DataW.trod_lt m _ _ _ hm
  obtain ⟨z0, w0⟩ : ∃ zs, IsRow .u8 W a0 len0 cap0 zs := by
    obtain ⟨fuel, hf⟩ := h0
    rcases open_ints Try.underlying44 Try.underlying5 (by kernel_rfl) hf with ⟨hcs, _⟩ | ⟨x, l, c, zs, hcs, _, hl, hm, hz, _, hcell, hwz⟩
    · simp [Value.cells] at hcs
      obtain ⟨rfl, rfl, rfl⟩ := hcs
      exact ⟨[], .inl ⟨rfl, rfl, rfl, rfl⟩⟩
    · simp [Value.cells] at hcs
      obtain ⟨rfl, rfl, rfl⟩ := hcs
      exact ⟨zs, .inr ⟨_, rfl, hl, hm, by simpa using hz, hcell, hwz⟩⟩
  clear hA0 hval0
  refine (walk a0 len0 cap0 z0 W w0).mono fun e W' ⟨he, bel⟩ => ?_
  subst he
  exact ⟨_, rfl, _, _, _, [], _, [], hW', trodAll_mk1 (shut_bool Try.underlying4 _), (trodAll_cons_mk (Below.trod laidOut (by kernel_rfl) (of_decide_eq_true (by kernel_rfl)) k0 bel lt0) trodAll_mk0), rfl, bel.frame _, fun h => by cases h⟩

theorem over : Rows.fnPatsRow.holds Try.pinned (OpenSpec.ofChange Rows.fnPatsSpec) :=
  OpenClaim.holds_of_wide 6 Try.f6 rfl rfl rfl rfl rfl rfl rfl ⟨rfl, rfl, rfl, rfl, rfl⟩ rfl rfl rfl rfl rfl (by kernel_rfl) Try.func6 (by kernel_rfl)
    (of_decide_eq_true (by kernel_rfl)) (by unfold Func.isWrapper; first | (rw [if_pos (by decide +kernel)]; kernel_rfl) | (rw [if_neg (by decide +kernel)]; exact ⟨rfl, rfl⟩))
    (fun os started H enc _ => lifted os started H enc)
end Go.Proofs.Ytaflokfgbmlmaab.LawPats
namespace Go.Proofs.Ytaflokfgbmlmaab
theorem fnPats_holds : Rows.FnPatsSaid := LawPats.over
#print axioms fnPats_holds
end Go.Proofs.Ytaflokfgbmlmaab
