/-
  What the parts of the model's RuleOk answer: knownB, condK, actK, stepP.
-/
import Derived.Test.YtcfhpcbkdpgboaaGreatDoorJoined3
import Derived.Test.YtcfhpcbkdpgboaaGreatDoorJActOkS
import Derived.Test.YtcfhpcbkdpgboaaGreatDoorJPosS
namespace Go.Proofs.YtcfhpcbkdpgboaaGreatDoor
open Go.RowKit
set_option linter.unusedVariables false

set_option maxRecDepth 100000 in
set_option maxHeartbeats 1600000 in
theorem l9Known_any (K : Int) (S : ByteArray) (VK VN : Int) (VS : ByteArray) (va : Option Addr) (nv cv : Nat) (l : List ByteArray) (w : World) (hz : l.length = nv) (hr : RdS w va l) (hn : nv ≤ 1048580) :
    Calls Tryz.prog 87 #[.agg #[.int .i64 K, .string S, .int .i64 VK, .int .i64 VN, .string VS], .slice va nv cv] w fun e w' => e = .returned (.bool (knownB ⟨K, S, ⟨VK, VN, VS⟩⟩ l)) ∧ Below w.heap.size w w' := by
  have HB : Hid (knownB ⟨K, S, ⟨VK, VN, VS⟩⟩ l = (!decide (K = 1) || hasS l S)) := rfl
  have b0 := below_al w (.cells #[.int .i64 K, .string S, .int .i64 VK, .int .i64 VN, .string VS] 63)
  by_cases h1 : K = 1
  · subst h1
    go_enter Tryz.func87, Tryz.ntmps87
    go_wp2_with fail
    refine (l6Has_any va nv cv l S _ hz (hr.below b0) hn).mono ?_
    rintro e w1 ⟨rfl, rfl⟩
    generalize hasS l S = bb at HB ⊢
    go_wp2
    go_ret
    exact ⟨by rw [HB.out]; rfl, b0⟩
  · have k1 : (K != 1) = true := by simpa using h1
    have HF : Hid (knownB ⟨K, S, ⟨VK, VN, VS⟩⟩ l = true) := by unfold Hid; rw [HB.out, decide_eq_false h1]; rfl
    clear h1
    go_enter Tryz.func87, Tryz.ntmps87
    go_wp2
    go_ret
    exact ⟨by rw [HF.out]; rfl, b0⟩

set_option maxRecDepth 100000 in
set_option maxHeartbeats 3200000 in
theorem l9Conds_any (a : Option Addr) (n cap : Nat) (C : List C11) (va : Option Addr) (nv cv : Nat) (l : List ByteArray) (w : World) (hzC : C.length = n) (hrC : RdCond w a C) (hs : ∀ c ∈ C, c.small) (hn : n ≤ 1048576) (hz : l.length = nv) (hr : RdS w va l) (hnv : nv ≤ 1048580) :
    Calls Tryz.prog 45 #[.slice a n cap, .slice va nv cv] w fun e w' => e = .returned (.bool (C.all (condK l) && decide (n ≤ 6))) ∧ Below w.heap.size w w' := by
  have HN := hide hzC.symm
  have HS := hide hs
  clear hzC hs
  go_enter Tryz.func45, Tryz.ntmps45
  go_wp2
  go_loopw [5] (fun i wr => ∃ (k : Nat), k ≤ n ∧ i = .int .i64 k ∧ (∀ j, j < k → condK l (eAt C j) = true) ∧ Below w.heap.size w wr) (fun i _ => n - (intOf i).toNat)
  case atStart => exact ⟨0, Nat.zero_le _, rfl, fun j hj => absurd hj (Nat.not_lt_zero _), Below.refl _ _⟩
  case round =>
    obtain ⟨k, hk, rfl, hall, hbel⟩ := hrel
    have HA := hide hall
    clear hall
    by_cases hlt : k < n
    · have hlL : k < C.length := by rw [← HN.out]; exact hlt
      obtain ⟨b, off, hab, hbw, hc⟩ := RdCond.cells hrC (by omega)
      have hc := hc k hlL
      have HNo : Hid (condK l (eAt C k) = false → C.all (condK l) = false) := fun h => by rw [Bool.eq_false_iff]; intro ht; rw [all_eAt.1 ht k hlL] at h; cases h
      have HNk : Hid (condK l (eAt C k) = true → ∀ j, j < k + 1 → condK l (eAt C j) = true) := fun h j hj => by
        by_cases e : j = k
        · rw [e]; exact h
        · exact HA.out j (by omega)
      have hS := HS.out _ (eAt_mem hlL)
      generalize eAt C k = y at hc HNo HNk hS
      obtain ⟨Op, ⟨LK, LS, ⟨LVK, LVN, LVS⟩⟩, ⟨RK, RS, ⟨RVK, RVN, RVS⟩⟩⟩ := y
      have HC : Hid (condK l ⟨Op, ⟨LK, LS, ⟨LVK, LVN, LVS⟩⟩, ⟨RK, RS, ⟨RVK, RVN, RVS⟩⟩⟩ = (condB Op ⟨LK, LS, ⟨LVK, LVN, LVS⟩⟩ ⟨RK, RS, ⟨RVK, RVN, RVS⟩⟩ && knownB ⟨LK, LS, ⟨LVK, LVN, LVS⟩⟩ l && knownB ⟨RK, RS, ⟨RVK, RVN, RVS⟩⟩ l)) := rfl
      have f1 := fits_of hS.1
      have f2 := fits_of hS.2
      clear hS
      simp only at hc
      have HCells := hide hc
      clear hc
      subst hab
      obtain ⟨c0, c1, c2, c3, c4, c5, c6, c7, c8, c9, c10⟩ := HCells.out
      rw [← hbel.cell (p := ⟨b, off + k * 11, none⟩) hbw] at c0
      rw [← hbel.cell (p := ⟨b, off + k * 11 + 1, none⟩) hbw] at c1
      rw [← hbel.cell (p := ⟨b, off + k * 11 + 2, none⟩) hbw] at c2
      rw [← hbel.cell (p := ⟨b, off + k * 11 + 3, none⟩) hbw] at c3
      rw [← hbel.cell (p := ⟨b, off + k * 11 + 4, none⟩) hbw] at c4
      rw [← hbel.cell (p := ⟨b, off + k * 11 + 5, none⟩) hbw] at c5
      rw [← hbel.cell (p := ⟨b, off + k * 11 + 6, none⟩) hbw] at c6
      rw [← hbel.cell (p := ⟨b, off + k * 11 + 7, none⟩) hbw] at c7
      rw [← hbel.cell (p := ⟨b, off + k * 11 + 8, none⟩) hbw] at c8
      rw [← hbel.cell (p := ⟨b, off + k * 11 + 9, none⟩) hbw] at c9
      rw [← hbel.cell (p := ⟨b, off + k * 11 + 10, none⟩) hbw] at c10
      go_wp2_with fail
      refine (specCondOk_any Op ⟨LK, LS, ⟨LVK, LVN, LVS⟩⟩ ⟨RK, RS, ⟨RVK, RVN, RVS⟩⟩ _ f1 f2).mono ?_
      rintro e w2 ⟨rfl, hb⟩
      have hb2 : Below w.heap.size w w2 := hbel.trans (hb.mono hbel.size)
      clear hb hbel c0 c1 c2 c3 c4 c5 c6 c7 c8 c9 c10
      generalize condB Op ⟨LK, LS, ⟨LVK, LVN, LVS⟩⟩ ⟨RK, RS, ⟨RVK, RVN, RVS⟩⟩ = bb at HC ⊢
      cases bb
      · have HV := hide (HNo.out (by rw [HC.out]; rfl))
        clear HNo HNk HC
        go_wp2
        go_ret
        exact ⟨ret_bool (by rw [HV.out]; rfl), hb2⟩
      · obtain ⟨c0, c1, c2, c3, c4, c5, c6, c7, c8, c9, c10⟩ := HCells.out
        clear c0 c6 c7 c8 c9 c10
        rw [← hb2.cell (p := ⟨b, off + k * 11 + 1, none⟩) hbw] at c1
        rw [← hb2.cell (p := ⟨b, off + k * 11 + 2, none⟩) hbw] at c2
        rw [← hb2.cell (p := ⟨b, off + k * 11 + 3, none⟩) hbw] at c3
        rw [← hb2.cell (p := ⟨b, off + k * 11 + 4, none⟩) hbw] at c4
        rw [← hb2.cell (p := ⟨b, off + k * 11 + 5, none⟩) hbw] at c5
        go_wp2_with fail
        refine (l9Known_any LK LS LVK LVN LVS va nv cv l _ hz (hr.below hb2) hnv).mono ?_
        rintro e w3 ⟨rfl, hb⟩
        have hb3 : Below w.heap.size w w3 := hb2.trans (hb.mono hb2.size)
        clear hb hb2 c1 c2 c3 c4 c5
        generalize knownB ⟨LK, LS, ⟨LVK, LVN, LVS⟩⟩ l = bb at HC ⊢
        cases bb
        · have HV := hide (HNo.out (by rw [HC.out]; rfl))
          clear HNo HNk HC
          go_wp2
          go_ret
          exact ⟨ret_bool (by rw [HV.out]; rfl), hb3⟩
        · obtain ⟨c0, c1, c2, c3, c4, c5, c6, c7, c8, c9, c10⟩ := HCells.out
          clear c0 c1 c2 c3 c4 c5
          rw [← hb3.cell (p := ⟨b, off + k * 11 + 6, none⟩) hbw] at c6
          rw [← hb3.cell (p := ⟨b, off + k * 11 + 7, none⟩) hbw] at c7
          rw [← hb3.cell (p := ⟨b, off + k * 11 + 8, none⟩) hbw] at c8
          rw [← hb3.cell (p := ⟨b, off + k * 11 + 9, none⟩) hbw] at c9
          rw [← hb3.cell (p := ⟨b, off + k * 11 + 10, none⟩) hbw] at c10
          go_wp2_with fail
          refine (l9Known_any RK RS RVK RVN RVS va nv cv l _ hz (hr.below hb3) hnv).mono ?_
          rintro e w4 ⟨rfl, hb⟩
          have hb4 : Below w.heap.size w w4 := hb3.trans (hb.mono hb3.size)
          clear hb hb3 c6 c7 c8 c9 c10
          generalize knownB ⟨RK, RS, ⟨RVK, RVN, RVS⟩⟩ l = bb at HC ⊢
          cases bb
          · have HV := hide (HNo.out (by rw [HC.out]; rfl))
            clear HNo HNk HC
            go_wp2
            go_ret
            exact ⟨ret_bool (by rw [HV.out]; rfl), hb4⟩
          · have HV := hide (HNk.out (by rw [HC.out]; rfl))
            clear HNo HNk HC HCells
            go_wp2
            go_roundw
            case rel => exact ⟨k + 1, by omega, by go_num, HV.out, hb4⟩
            case measure => simp [intOf]; omega
    · have HV : Hid (C.all (condK l) = true) := all_eAt.2 (fun j hj => HA.out j (by rw [← HN.out] at hj; omega))
      have HD : Hid (decide ((n : Int) ≤ 6) = decide (n ≤ 6)) := by unfold Hid; exact decide_eq_decide.2 (by omega)
      go_wp2
      go_ret
      exact ⟨ret_bool (by rw [HV.out, Bool.true_and]; exact HD.out), hbel⟩

set_option maxRecDepth 100000 in
set_option maxHeartbeats 6400000 in
theorem l9Acts_any (a : Option Addr) (n cap : Nat) (A : List QE) (va : Option Addr) (nv cv : Nat) (l : List ByteArray) (pos : Nat) (w : World) (hzA : A.length = n) (hrA : RdActS w a A) (hs : ∀ c ∈ A, c.small) (hn : n ≤ 1048576) (hz : l.length = nv) (hr : RdS w va l) (hnv : nv ≤ 1048580) (hpos : pos ≤ 1048576) :
    Calls Tryz.prog 46 #[.slice a n cap, .slice va nv cv, .int .i64 (pos : Int)] w fun e w' => e = .returned (.bool (A.all (actK l pos) && inB n 1 6)) ∧ Below w.heap.size w w' := by
  have HN := hide hzA.symm
  have HS := hide hs
  clear hzA hs
  go_enter Tryz.func46, Tryz.ntmps46
  go_wp2
  go_loopw [7] (fun i wr => ∃ (k : Nat), k ≤ n ∧ i = .int .i64 k ∧ (∀ j, j < k → actK l pos (eAt A j) = true) ∧ Below w.heap.size w wr) (fun i _ => n - (intOf i).toNat)
  case atStart => exact ⟨0, Nat.zero_le _, rfl, fun j hj => absurd hj (Nat.not_lt_zero _), Below.refl _ _⟩
  case round =>
    obtain ⟨k, hk, rfl, hall, hbel⟩ := hrel
    have HA := hide hall
    clear hall
    by_cases hlt : k < n
    · have hlL : k < A.length := by rw [← HN.out]; exact hlt
      obtain ⟨b, off, hab, hbw, hc⟩ := hrA.cells (by omega)
      have hc := hc k hlL
      have HNo : Hid (actK l pos (eAt A k) = false → A.all (actK l pos) = false) := fun h => by rw [Bool.eq_false_iff]; intro ht; rw [all_eAt.1 ht k hlL] at h; cases h
      have HNk : Hid (actK l pos (eAt A k) = true → ∀ j, j < k + 1 → actK l pos (eAt A j) = true) := fun h j hj => by
        by_cases e : j = k
        · rw [e]; exact h
        · exact HA.out j (by omega)
      have hS := HS.out _ (eAt_mem hlL)
      generalize eAt A k = y at hc HNo HNk hS
      obtain ⟨K, nm, ya, yc, L, N, un⟩ := y
      have HC : Hid (actK l pos ⟨K, nm, ya, yc, L, N, un⟩ = (actB K nm L N un && !(decide (K = 2) && decide ((pos : Int) ≤ N)) && L.all (termK l))) := rfl
      obtain ⟨h1, h2, h3, h4⟩ := hS
      have f1 : nm.size ≤ maxLen := Nat.le_trans h1 (by unfold maxLen; omega)
      have f2 : un.size ≤ maxLen := Nat.le_trans h2 (by unfold maxLen; omega)
      have f3 : ∀ v ∈ L, v.fits := fun v hv => by obtain ⟨g0, g1, g2⟩ := h4 v hv; exact ⟨Nat.le_trans g0 (by unfold maxLen; omega), fits_of g1, fits_of g2⟩
      have f4 : L.length ≤ 1048576 := h3
      clear h1 h2 h3 h4
      simp only at hc
      have HCells := hide hc
      clear hc
      subst hab
      obtain ⟨c0, c1, c2, c3, c4, hin⟩ := HCells.out
      have HIn := hide hin
      clear hin
      rw [← hbel.cell (p := ⟨b, off + k * 5, none⟩) hbw] at c0
      rw [← hbel.cell (p := ⟨b, off + k * 5 + 1, none⟩) hbw] at c1
      rw [← hbel.cell (p := ⟨b, off + k * 5 + 2, none⟩) hbw] at c2
      rw [← hbel.cell (p := ⟨b, off + k * 5 + 3, none⟩) hbw] at c3
      rw [← hbel.cell (p := ⟨b, off + k * 5 + 4, none⟩) hbw] at c4
      go_wp2_with fail
      refine (specActOk_any K nm ya yc L N un _ f1 (RdK.below HIn.out hbel) f3 (by omega) f2).mono ?_
      rintro e w2 ⟨rfl, hb⟩
      have hb2 : Below w.heap.size w w2 := hbel.trans (hb.mono hbel.size)
      clear hb hbel c0 c1 c2 c3 c4
      generalize actB K nm L N un = bb at HC ⊢
      cases bb
      · have HV := hide (HNo.out (by rw [HC.out]; rfl))
        clear HNo HNk HC
        go_wp2
        go_ret
        exact ⟨ret_bool (by rw [HV.out]; rfl), hb2⟩
      · obtain ⟨c0, c1, c2, c3, c4, -⟩ := HCells.out
        rw [← hb2.cell (p := ⟨b, off + k * 5, none⟩) hbw] at c0
        rw [← hb2.cell (p := ⟨b, off + k * 5 + 1, none⟩) hbw] at c1
        rw [← hb2.cell (p := ⟨b, off + k * 5 + 2, none⟩) hbw] at c2
        rw [← hb2.cell (p := ⟨b, off + k * 5 + 3, none⟩) hbw] at c3
        rw [← hb2.cell (p := ⟨b, off + k * 5 + 4, none⟩) hbw] at c4
        have k2 : (K = 2 ∧ (pos : Int) ≤ N) ∨ ¬ (K = 2 ∧ (pos : Int) ≤ N) := Classical.em _
        rcases k2 with ⟨rfl, hN⟩ | hno
        · have HV := hide (HNo.out (by rw [HC.out, decide_eq_true hN]; rfl))
          clear HNo HNk HC
          go_wp2
          go_ret
          exact ⟨ret_bool (by rw [HV.out]; rfl), hb2⟩
        · have HC2 : Hid (actK l pos ⟨K, nm, ya, yc, L, N, un⟩ = L.all (termK l)) := by
            unfold Hid
            rw [HC.out]
            have : (decide (K = 2) && decide ((pos : Int) ≤ N)) = false := by
              rw [Bool.eq_false_iff]; intro h; simp only [Bool.and_eq_true, decide_eq_true_eq] at h; exact hno h
            rw [this]; rfl
          clear HC
          have hsk : (K == 2) = false ∨ ((K == 2) = true ∧ ¬ (pos : Int) ≤ N) := by
            by_cases h : K = 2
            · exact .inr ⟨by simpa using h, fun h2 => hno ⟨h, h2⟩⟩
            · exact .inl (by simpa using h)
          clear hno
          rcases hsk with k3 | ⟨k3, k4⟩
          all_goals
            go_wp2
            clear c0 c1 c3 c4
            go_loopw [8] (fun i wr => ∃ (j : Nat), j ≤ L.length ∧ i = .int .i64 j ∧ (∀ m, m < j → termK l (eAt L m) = true) ∧ Below w.heap.size w wr) (fun i _ => L.length - (intOf i).toNat)
            case atStart => exact ⟨0, Nat.zero_le _, rfl, fun j hj => absurd hj (Nat.not_lt_zero _), hb2⟩
            case round =>
              clear c2 hb2
              obtain ⟨j, hj, rfl, hall2, hbel⟩ := hrel
              have HA2 := hide hall2
              clear hall2
              obtain ⟨-, -, c2, -, -, -⟩ := HCells.out
              rw [← hbel.cell (p := ⟨b, off + k * 5 + 2, none⟩) hbw] at c2
              by_cases hlt2 : j < L.length
              · obtain ⟨bt, ot, hat, hbt, hct⟩ := RdExpr.cells HIn.out (by omega)
                have hct := hct j hlt2
                have HNo2 : Hid (termK l (eAt L j) = false → L.all (termK l) = false) := fun h => by rw [Bool.eq_false_iff]; intro ht; rw [all_eAt.1 ht j hlt2] at h; cases h
                have HNk2 : Hid (termK l (eAt L j) = true → ∀ m, m < j + 1 → termK l (eAt L m) = true) := fun h m hm => by
                  by_cases e : m = j
                  · rw [e]; exact h
                  · exact HA2.out m (by omega)
                generalize eAt L j = z at hct HNo2 HNk2
                obtain ⟨Op, ⟨LK, LS, ⟨LVK, LVN, LVS⟩⟩, ⟨RK, RS, ⟨RVK, RVN, RVS⟩⟩⟩ := z
                have HT : Hid (termK l ⟨Op, ⟨LK, LS, ⟨LVK, LVN, LVS⟩⟩, ⟨RK, RS, ⟨RVK, RVN, RVS⟩⟩⟩ = (knownB ⟨LK, LS, ⟨LVK, LVN, LVS⟩⟩ l && knownB ⟨RK, RS, ⟨RVK, RVN, RVS⟩⟩ l)) := rfl
                simp only at hct
                have HTc := hide hct
                have HAt := hide hat
                rw [hat] at c2
                clear hct hat
                obtain ⟨-, d1, d2, d3, d4, d5, -, -, -, -, -⟩ := HTc.out
                rw [← hbel.cell (p := ⟨bt, ot + j * 11 + 1, none⟩) hbt] at d1
                rw [← hbel.cell (p := ⟨bt, ot + j * 11 + 2, none⟩) hbt] at d2
                rw [← hbel.cell (p := ⟨bt, ot + j * 11 + 3, none⟩) hbt] at d3
                rw [← hbel.cell (p := ⟨bt, ot + j * 11 + 4, none⟩) hbt] at d4
                rw [← hbel.cell (p := ⟨bt, ot + j * 11 + 5, none⟩) hbt] at d5
                go_wp2_with fail
                refine (l9Known_any LK LS LVK LVN LVS va nv cv l _ hz (hr.below hbel) hnv).mono ?_
                rintro e w3 ⟨rfl, hb⟩
                have hb3 : Below w.heap.size w w3 := hbel.trans (hb.mono hbel.size)
                clear hb hbel d1 d2 d3 d4 d5 c2
                generalize knownB ⟨LK, LS, ⟨LVK, LVN, LVS⟩⟩ l = bb at HT ⊢
                cases bb
                · have HV := hide (HNo.out (by rw [HC2.out]; exact HNo2.out (by rw [HT.out]; rfl)))
                  clear HNo HNk HC2 HNo2 HNk2 HT
                  go_wp2
                  go_ret
                  exact ⟨ret_bool (by rw [HV.out]; rfl), hb3⟩
                · obtain ⟨-, -, -, -, -, -, d6, d7, d8, d9, d10⟩ := HTc.out
                  rw [← hb3.cell (p := ⟨bt, ot + j * 11 + 6, none⟩) hbt] at d6
                  rw [← hb3.cell (p := ⟨bt, ot + j * 11 + 7, none⟩) hbt] at d7
                  rw [← hb3.cell (p := ⟨bt, ot + j * 11 + 8, none⟩) hbt] at d8
                  rw [← hb3.cell (p := ⟨bt, ot + j * 11 + 9, none⟩) hbt] at d9
                  rw [← hb3.cell (p := ⟨bt, ot + j * 11 + 10, none⟩) hbt] at d10
                  obtain ⟨-, -, c2, -, -, -⟩ := HCells.out
                  rw [← hb3.cell (p := ⟨b, off + k * 5 + 2, none⟩) hbw, HAt.out] at c2
                  go_wp2_with fail
                  refine (l9Known_any RK RS RVK RVN RVS va nv cv l _ hz (hr.below hb3) hnv).mono ?_
                  rintro e w4 ⟨rfl, hb⟩
                  have hb4 : Below w.heap.size w w4 := hb3.trans (hb.mono hb3.size)
                  clear hb hb3 d6 d7 d8 d9 d10 c2
                  generalize knownB ⟨RK, RS, ⟨RVK, RVN, RVS⟩⟩ l = bb at HT ⊢
                  cases bb
                  · have HV := hide (HNo.out (by rw [HC2.out]; exact HNo2.out (by rw [HT.out]; rfl)))
                    clear HNo HNk HC2 HNo2 HNk2 HT
                    go_wp2
                    go_ret
                    exact ⟨ret_bool (by rw [HV.out]; rfl), hb4⟩
                  · have HV2 := hide (HNk2.out (by rw [HT.out]; rfl))
                    clear HNo2 HNk2 HT HTc HAt
                    go_wp2
                    go_roundw
                    case rel => exact ⟨j + 1, by omega, by go_num, HV2.out, hb4⟩
                    case measure => simp [intOf]; omega
              · have HV := hide (HNk.out (by rw [HC2.out]; exact all_eAt.2 (fun m hm => HA2.out m (by omega))))
                clear HNo HNk HC2 HCells
                go_wp2
                go_roundw
                case rel => exact ⟨k + 1, by omega, by go_num, HV.out, hbel⟩
                case measure => simp [intOf]; omega
    · have HV : Hid (A.all (actK l pos) = true) := all_eAt.2 (fun j hj => HA.out j (by rw [← HN.out] at hj; omega))
      go_wp2_with fail
      refine (l1In_any _ _ _ _).mono ?_
      rintro e w2 ⟨rfl, rfl⟩
      go_wp2
      go_ret
      exact ⟨ret_bool (by rw [HV.out, Bool.true_and]), hbel⟩
end Go.Proofs.YtcfhpcbkdpgboaaGreatDoor
