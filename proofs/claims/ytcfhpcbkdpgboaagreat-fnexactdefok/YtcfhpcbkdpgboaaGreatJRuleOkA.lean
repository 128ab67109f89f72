/-
  What the parts of the tested RuleOk answer: its lists, its methods.
-/
import Derived.Test.YtcfhpcbkdpgboaaGreatJBindsI
import Derived.Test.YtcfhpcbkdpgboaaGreatJPosCI
import Derived.Deep.RegionWith
namespace Go.Proofs.YtcfhpcbkdpgboaaGreat
open Go.RowKit
set_option linter.unusedVariables false

def PE.pos (p : PE) : Bool := !p.nt
theorem fits_of {x : A5} (h : x.small) : x.fits := ⟨Nat.le_trans h.1 (by unfold maxLen; omega), Nat.le_trans h.2 (by unfold maxLen; omega)⟩

set_option maxRecDepth 100000 in
set_option maxHeartbeats 3200000 in
theorem condOk_any (c : C11) (aJ : Option Addr) (nJ cJ : Nat) (J : List PE) (x : RE) (w : World) (hf : c.small) (hzJ : J.length = nJ) (hrJ : RdPatS w aJ J) (hsJ : ∀ p ∈ J, p.small) (hnJ : nJ ≤ 1048576) :
    Calls Tryz.prog 34 #[.agg #[.string x.nm, .int .i64 x.sal, .slice x.aP x.nP x.cP, .slice x.aC x.nC x.cC, .slice x.aA x.nA x.cA, .slice aJ nJ cJ], .agg #[.int .i64 c.Op, .int .i64 c.L.K, .string c.L.S, .int .i64 c.L.V.K, .int .i64 c.L.V.N, .string c.L.V.S, .int .i64 c.R.K, .string c.R.S, .int .i64 c.R.V.K, .int .i64 c.R.V.N, .string c.R.V.S]] w fun e w' => e = .returned (.bool (condI J c)) ∧ Below w.heap.size w w' := by
  obtain ⟨Op, ⟨LK, LS, ⟨LVK, LVN, LVS⟩⟩, ⟨RK, RS, ⟨RVK, RVN, RVS⟩⟩⟩ := c
  have f1 := fits_of hf.1
  have f2 := fits_of hf.2
  have HC : Hid (condI J ⟨Op, ⟨LK, LS, ⟨LVK, LVN, LVS⟩⟩, ⟨RK, RS, ⟨RVK, RVN, RVS⟩⟩⟩ = (condB Op ⟨LK, LS, ⟨LVK, LVN, LVS⟩⟩ ⟨RK, RS, ⟨RVK, RVN, RVS⟩⟩ && bindsI J ⟨LK, LS, ⟨LVK, LVN, LVS⟩⟩ && bindsI J ⟨RK, RS, ⟨RVK, RVN, RVS⟩⟩)) := rfl
  simp only
  obtain ⟨hA, hX, b1⟩ := boxes2 w #[.string x.nm, .int .i64 x.sal, .slice x.aP x.nP x.cP, .slice x.aC x.nC x.cC, .slice x.aA x.nA x.cA, .slice aJ nJ cJ] #[.int .i64 Op, .int .i64 LK, .string LS, .int .i64 LVK, .int .i64 LVN, .string LVS, .int .i64 RK, .string RS, .int .i64 RVK, .int .i64 RVN, .string RVS] 63 72
  go_enter Tryz.func34, Tryz.ntmps34
  go_wp2_with fail
  refine (implCondOk_any Op ⟨LK, LS, ⟨LVK, LVN, LVS⟩⟩ ⟨RK, RS, ⟨RVK, RVN, RVS⟩⟩ _ f1 f2).mono ?_
  rintro e w1 ⟨rfl, hb⟩
  have HA1 := hide (box_step hA hb)
  have HX1 := hide (box_step hX hb)
  have hB1 : Below w.heap.size w w1 := b1.trans (hb.mono b1.size)
  clear hb hA hX b1
  generalize condB Op ⟨LK, LS, ⟨LVK, LVN, LVS⟩⟩ ⟨RK, RS, ⟨RVK, RVN, RVS⟩⟩ = bb at HC ⊢
  cases bb
  · go_wp2
    go_ret
    exact ⟨by rw [HC.out]; rfl, hB1⟩
  · have a5 := boxk_cell HA1.out 5 _ rfl
    have x1 := boxk_cell HX1.out 1 _ rfl
    have x2 := boxk_cell HX1.out 2 _ rfl
    have x3 := boxk_cell HX1.out 3 _ rfl
    have x4 := boxk_cell HX1.out 4 _ rfl
    have x5 := boxk_cell HX1.out 5 _ rfl
    go_wp2_with fail
    refine (binds_any aJ nJ cJ J LK LS LVK LVN LVS _ hzJ (hrJ.below hB1) hsJ (by omega)).mono ?_
    rintro e w2 ⟨rfl, hb⟩
    have HA2 := hide (box_step HA1.out hb)
    have HX2 := hide (box_step HX1.out hb)
    have hB2 : Below w.heap.size w w2 := hB1.trans (hb.mono hB1.size)
    clear hb HA1 HX1 hB1 a5 x1 x2 x3 x4 x5
    generalize bindsI J ⟨LK, LS, ⟨LVK, LVN, LVS⟩⟩ = bb at HC ⊢
    cases bb
    · go_wp2
      go_ret
      exact ⟨by rw [HC.out]; rfl, hB2⟩
    · have a5 := boxk_cell HA2.out 5 _ rfl
      have x6 := boxk_cell HX2.out 6 _ rfl
      have x7 := boxk_cell HX2.out 7 _ rfl
      have x8 := boxk_cell HX2.out 8 _ rfl
      have x9 := boxk_cell HX2.out 9 _ rfl
      have x10 := boxk_cell HX2.out 10 _ rfl
      go_wp2_with fail
      refine (binds_any aJ nJ cJ J RK RS RVK RVN RVS _ hzJ (hrJ.below hB2) hsJ (by omega)).mono ?_
      rintro e w3 ⟨rfl, hb⟩
      have hB3 : Below w.heap.size w w3 := hB2.trans (hb.mono hB2.size)
      clear hb HA2 HX2 hB2 a5 x6 x7 x8 x9 x10
      generalize bindsI J ⟨RK, RS, ⟨RVK, RVN, RVS⟩⟩ = bb at HC ⊢
      go_wp2
      go_ret
      exact ⟨by rw [HC.out]; rfl, hB3⟩

set_option maxRecDepth 100000 in
set_option maxHeartbeats 3200000 in
theorem listC_any (a : Option Addr) (cap n : Nat) (L : List C11) (aJ : Option Addr) (nJ cJ : Nat) (J : List PE) (x : RE) (w : World) (hz : L.length = n) (hr : RdCond w a L) (hzJ : J.length = nJ) (hrJ : RdPatS w aJ J) (hsJ : ∀ p ∈ J, p.small) (hnJ : nJ ≤ 1048576) (hs : ∀ c ∈ L, c.small) (hm : n ≤ 1048580) :
    Calls Tryz.prog 33 #[.slice a n cap, .int .i64 0, .int .i64 6, .func (.func 34) #[.agg #[.string x.nm, .int .i64 x.sal, .slice x.aP x.nP x.cP, .slice x.aC x.nC x.cC, .slice x.aA x.nA x.cA, .slice aJ nJ cJ]] #[]] w fun e w' =>
      e = .returned (.bool (decide (n ≤ 6) && L.all (condI J))) ∧ Below w.heap.size w w' := by
  have HN := hide hz.symm
  clear hz
  by_cases h5 : n ≤ 6
  · have HF : Hid ((decide (n ≤ 6) && L.all (condI J)) = L.all (condI J)) := by unfold Hid; rw [decide_eq_true h5]; rfl
    go_enter Tryz.func33, Tryz.ntmps33
    go_wp2
    go_loopw [23] (fun i wr => ∃ (k : Nat), k ≤ n ∧ i = .int .i64 k ∧ (∀ j, j < k → (condI J) (eAt L j) = true) ∧ Below w.heap.size w wr) (fun i _ => n - (intOf i).toNat)
    case atStart => exact ⟨0, Nat.zero_le _, rfl, fun j hj => absurd hj (Nat.not_lt_zero _), Below.refl _ _⟩
    case round =>
      obtain ⟨k, hk, rfl, hall, hbel⟩ := hrel
      have HA := hide hall
      clear hall
      by_cases hlt : k < n
      · have hlL : k < L.length := by rw [← HN.out]; exact hlt
        obtain ⟨b, off, hab, hbw, hc⟩ := RdCond.cells (RdK.below hr hbel) (by omega)
        obtain ⟨c0, c1, c2, c3, c4, c5, c6, c7, c8, c9, c10⟩ := hc k hlL
        clear hc
        subst hab
        have hS := hs _ (eAt_mem hlL)
        have HNo : Hid ((condI J) (eAt L k) = false → L.all (condI J) = false) := fun h => by rw [Bool.eq_false_iff]; intro ht; rw [all_eAt.1 ht k hlL] at h; cases h
        have HNk : Hid ((condI J) (eAt L k) = true → ∀ j, j < k + 1 → (condI J) (eAt L j) = true) := fun h j hj => by
          by_cases e : j = k
          · rw [e]; exact h
          · exact HA.out j (by omega)
        generalize eAt L k = y at c0 c1 c2 c3 c4 c5 c6 c7 c8 c9 c10 hS HNo HNk
        have hbel1 := hbel.alloc hbel.size (.cells #[.int .i64 y.Op, .int .i64 y.L.K, .string y.L.S, .int .i64 y.L.V.K, .int .i64 y.L.V.N, .string y.L.V.S, .int .i64 y.R.K, .string y.R.S, .int .i64 y.R.V.K, .int .i64 y.R.V.N, .string y.R.V.S] 72)
        go_wp2_with fail
        refine (condOk_any y aJ nJ cJ J x _ hS hzJ (hrJ.below hbel1) hsJ hnJ).mono ?_
        rintro e w2 ⟨rfl, hb2⟩
        have hbel2 : Below w.heap.size w w2 := hbel1.trans (hb2.mono hbel1.size)
        clear hb2 hS c0 c1 c2 c3 c4 c5 c6 c7 c8 c9 c10 hbel hbel1
        generalize (condI J) y = bb at HNo HNk ⊢
        cases bb
        · have HV := hide (HNo.out rfl)
          clear HNo HNk
          go_wp2
          go_ret
          exact ⟨ret_bool (by rw [HF.out, HV.out]), hbel2⟩
        · have HV := hide (HNk.out rfl)
          clear HNo HNk
          go_wp2
          go_roundw
          case rel => exact ⟨k + 1, by omega, by go_num, HV.out, hbel2⟩
          case measure => simp [intOf]; omega
      · have HV : Hid (L.all (condI J) = true) := all_eAt.2 (fun j hj => HA.out j (by rw [← HN.out] at hj; omega))
        go_wp2
        go_ret
        exact ⟨ret_bool (by rw [HF.out, HV.out]), hbel⟩
  · have HF : Hid ((decide (n ≤ 6) && L.all (condI J)) = false) := by unfold Hid; rw [decide_eq_false h5]; rfl

    have hn : (6 : Int) < (n : Int) := by omega
    go_enter Tryz.func33, Tryz.ntmps33
    go_wp2
    go_ret
    exact ⟨ret_bool HF.out.symm, Below.refl _ _⟩

set_option maxRecDepth 100000 in
set_option maxHeartbeats 3200000 in
theorem bindsTerm_any (c : X11) (aJ : Option Addr) (nJ cJ : Nat) (J : List PE) (x : RE) (w : World) (hzJ : J.length = nJ) (hrJ : RdPatS w aJ J) (hsJ : ∀ p ∈ J, p.small) (hnJ : nJ ≤ 1048576) :
    Calls Tryz.prog 60 #[.agg #[.string x.nm, .int .i64 x.sal, .slice x.aP x.nP x.cP, .slice x.aC x.nC x.cC, .slice x.aA x.nA x.cA, .slice aJ nJ cJ], .agg #[.string c.Op, .int .i64 c.L.K, .string c.L.S, .int .i64 c.L.V.K, .int .i64 c.L.V.N, .string c.L.V.S, .int .i64 c.R.K, .string c.R.S, .int .i64 c.R.V.K, .int .i64 c.R.V.N, .string c.R.V.S]] w fun e w' => e = .returned (.bool (termI J c)) ∧ Below w.heap.size w w' := by
  obtain ⟨Op, ⟨LK, LS, ⟨LVK, LVN, LVS⟩⟩, ⟨RK, RS, ⟨RVK, RVN, RVS⟩⟩⟩ := c
  have HC : Hid (termI J ⟨Op, ⟨LK, LS, ⟨LVK, LVN, LVS⟩⟩, ⟨RK, RS, ⟨RVK, RVN, RVS⟩⟩⟩ = (bindsI J ⟨LK, LS, ⟨LVK, LVN, LVS⟩⟩ && bindsI J ⟨RK, RS, ⟨RVK, RVN, RVS⟩⟩)) := rfl
  simp only
  obtain ⟨hA, hX, b1⟩ := boxes2 w #[.string x.nm, .int .i64 x.sal, .slice x.aP x.nP x.cP, .slice x.aC x.nC x.cC, .slice x.aA x.nA x.cA, .slice aJ nJ cJ] #[.string Op, .int .i64 LK, .string LS, .int .i64 LVK, .int .i64 LVN, .string LVS, .int .i64 RK, .string RS, .int .i64 RVK, .int .i64 RVN, .string RVS] 63 91
  go_enter Tryz.func60, Tryz.ntmps60
  go_wp2_with fail
  refine (binds_any aJ nJ cJ J LK LS LVK LVN LVS _ hzJ (hrJ.below b1) hsJ (by omega)).mono ?_
  rintro e w1 ⟨rfl, hb⟩
  have HA1 := hide (box_step hA hb)
  have HX1 := hide (box_step hX hb)
  have hB1 : Below w.heap.size w w1 := b1.trans (hb.mono b1.size)
  clear hb hA hX b1
  generalize bindsI J ⟨LK, LS, ⟨LVK, LVN, LVS⟩⟩ = bb at HC ⊢
  cases bb
  · go_wp2
    go_ret
    exact ⟨by rw [HC.out]; rfl, hB1⟩
  · have a5 := boxk_cell HA1.out 5 _ rfl
    have x6 := boxk_cell HX1.out 6 _ rfl
    have x7 := boxk_cell HX1.out 7 _ rfl
    have x8 := boxk_cell HX1.out 8 _ rfl
    have x9 := boxk_cell HX1.out 9 _ rfl
    have x10 := boxk_cell HX1.out 10 _ rfl
    go_wp2_with fail
    refine (binds_any aJ nJ cJ J RK RS RVK RVN RVS _ hzJ (hrJ.below hB1) hsJ (by omega)).mono ?_
    rintro e w3 ⟨rfl, hb⟩
    have hB3 : Below w.heap.size w w3 := hB1.trans (hb.mono hB1.size)
    clear hb HA1 HX1 hB1 a5 x6 x7 x8 x9 x10
    generalize bindsI J ⟨RK, RS, ⟨RVK, RVN, RVS⟩⟩ = bb at HC ⊢
    go_wp2
    go_ret
    exact ⟨by rw [HC.out]; rfl, hB3⟩

set_option maxRecDepth 100000 in
set_option maxHeartbeats 3200000 in
theorem listT_any (a : Option Addr) (cap n : Nat) (L : List X11) (aJ : Option Addr) (nJ cJ : Nat) (J : List PE) (x : RE) (w : World) (hz : L.length = n) (hr : RdExpr w a L) (hzJ : J.length = nJ) (hrJ : RdPatS w aJ J) (hsJ : ∀ p ∈ J, p.small) (hnJ : nJ ≤ 1048576) (hm : n ≤ 1048580) :
    Calls Tryz.prog 59 #[.slice a n cap, .int .i64 0, .int .i64 5, .func (.func 60) #[.agg #[.string x.nm, .int .i64 x.sal, .slice x.aP x.nP x.cP, .slice x.aC x.nC x.cC, .slice x.aA x.nA x.cA, .slice aJ nJ cJ]] #[]] w fun e w' =>
      e = .returned (.bool (decide (n ≤ 5) && L.all (termI J))) ∧ Below w.heap.size w w' := by
  have HN := hide hz.symm
  clear hz
  by_cases h5 : n ≤ 5
  · have HF : Hid ((decide (n ≤ 5) && L.all (termI J)) = L.all (termI J)) := by unfold Hid; rw [decide_eq_true h5]; rfl
    go_enter Tryz.func59, Tryz.ntmps59
    go_wp2
    go_loopw [23] (fun i wr => ∃ (k : Nat), k ≤ n ∧ i = .int .i64 k ∧ (∀ j, j < k → (termI J) (eAt L j) = true) ∧ Below w.heap.size w wr) (fun i _ => n - (intOf i).toNat)
    case atStart => exact ⟨0, Nat.zero_le _, rfl, fun j hj => absurd hj (Nat.not_lt_zero _), Below.refl _ _⟩
    case round =>
      obtain ⟨k, hk, rfl, hall, hbel⟩ := hrel
      have HA := hide hall
      clear hall
      by_cases hlt : k < n
      · have hlL : k < L.length := by rw [← HN.out]; exact hlt
        obtain ⟨b, off, hab, hbw, hc⟩ := RdExpr.cells (RdK.below hr hbel) (by omega)
        obtain ⟨c0, c1, c2, c3, c4, c5, c6, c7, c8, c9, c10⟩ := hc k hlL
        clear hc
        subst hab
        have hS := True.intro
        have HNo : Hid ((termI J) (eAt L k) = false → L.all (termI J) = false) := fun h => by rw [Bool.eq_false_iff]; intro ht; rw [all_eAt.1 ht k hlL] at h; cases h
        have HNk : Hid ((termI J) (eAt L k) = true → ∀ j, j < k + 1 → (termI J) (eAt L j) = true) := fun h j hj => by
          by_cases e : j = k
          · rw [e]; exact h
          · exact HA.out j (by omega)
        generalize eAt L k = y at c0 c1 c2 c3 c4 c5 c6 c7 c8 c9 c10 hS HNo HNk
        have hbel1 := hbel.alloc hbel.size (.cells #[.string y.Op, .int .i64 y.L.K, .string y.L.S, .int .i64 y.L.V.K, .int .i64 y.L.V.N, .string y.L.V.S, .int .i64 y.R.K, .string y.R.S, .int .i64 y.R.V.K, .int .i64 y.R.V.N, .string y.R.V.S] 91)
        go_wp2_with fail
        refine (bindsTerm_any y aJ nJ cJ J x _ hzJ (hrJ.below hbel1) hsJ hnJ).mono ?_
        rintro e w2 ⟨rfl, hb2⟩
        have hbel2 : Below w.heap.size w w2 := hbel1.trans (hb2.mono hbel1.size)
        clear hb2 hS c0 c1 c2 c3 c4 c5 c6 c7 c8 c9 c10 hbel hbel1
        generalize (termI J) y = bb at HNo HNk ⊢
        cases bb
        · have HV := hide (HNo.out rfl)
          clear HNo HNk
          go_wp2
          go_ret
          exact ⟨ret_bool (by rw [HF.out, HV.out]), hbel2⟩
        · have HV := hide (HNk.out rfl)
          clear HNo HNk
          go_wp2
          go_roundw
          case rel => exact ⟨k + 1, by omega, by go_num, HV.out, hbel2⟩
          case measure => simp [intOf]; omega
      · have HV : Hid (L.all (termI J) = true) := all_eAt.2 (fun j hj => HA.out j (by rw [← HN.out] at hj; omega))
        go_wp2
        go_ret
        exact ⟨ret_bool (by rw [HF.out, HV.out]), hbel⟩
  · have HF : Hid ((decide (n ≤ 5) && L.all (termI J)) = false) := by unfold Hid; rw [decide_eq_false h5]; rfl

    have hn : (5 : Int) < (n : Int) := by omega
    go_enter Tryz.func59, Tryz.ntmps59
    go_wp2
    go_ret
    exact ⟨ret_bool HF.out.symm, Below.refl _ _⟩

set_option maxRecDepth 100000 in
set_option maxHeartbeats 3200000 in
theorem listP_any (a : Option Addr) (cap n : Nat) (L : List PE) (w : World) (hz : L.length = n) (hr : RdPatS w a L) (hs : ∀ p ∈ L, p.small) (hm : n ≤ 1048580) :
    Calls Tryz.prog 52 #[.slice a n cap, .int .i64 1, .int .i64 6, .func (.func 53) #[] #[]] w fun e w' =>
      e = .returned (.bool (inB n 1 6 && L.all PE.okB)) ∧ Below w.heap.size w w' := by
  have HN := hide hz.symm
  clear hz
  by_cases h5 : 1 ≤ n ∧ n ≤ 6
  · have HF : Hid ((inB n 1 6 && L.all PE.okB) = L.all PE.okB) := by unfold Hid; rw [inB_t (by omega)]; rfl
    go_enter Tryz.func52, Tryz.ntmps52
    go_wp2
    go_loopw [23] (fun i wr => ∃ (k : Nat), k ≤ n ∧ i = .int .i64 k ∧ (∀ j, j < k → PE.okB (eAt L j) = true) ∧ Below w.heap.size w wr) (fun i _ => n - (intOf i).toNat)
    case atStart => exact ⟨0, Nat.zero_le _, rfl, fun j hj => absurd hj (Nat.not_lt_zero _), Below.refl _ _⟩
    case round =>
      obtain ⟨k, hk, rfl, hall, hbel⟩ := hrel
      have HA := hide hall
      clear hall
      by_cases hlt : k < n
      · have hlL : k < L.length := by rw [← HN.out]; exact hlt
        obtain ⟨b, off, hab, hbw, hc⟩ := (hr.below hbel).cells (by omega)
        obtain ⟨c0, c1, c2, hin⟩ := hc k hlL
        clear hc
        subst hab
        have hS := hs _ (eAt_mem hlL)
        have HNo : Hid (PE.okB (eAt L k) = false → L.all PE.okB = false) := fun h => by rw [Bool.eq_false_iff]; intro ht; rw [all_eAt.1 ht k hlL] at h; cases h
        have HNk : Hid (PE.okB (eAt L k) = true → ∀ j, j < k + 1 → PE.okB (eAt L j) = true) := fun h j hj => by
          by_cases e : j = k
          · rw [e]; exact h
          · exact HA.out j (by omega)
        have HIn := hide hin
        clear hin
        generalize eAt L k = y at c0 c1 c2 hS HNo HNk HIn
        have hbel1 := hbel.alloc hbel.size (.cells #[.string y.kd, .slice y.a y.L.length y.cap, .bool y.nt] 86)
        go_wp2_with fail
        refine (implPatOk_any y.kd y.a y.cap y.L y.nt _ (by have := hS.1; unfold maxLen; omega) (HIn.out.below (below_al _ _)) (fun v hv => by have := hS.2.2 v hv; exact ⟨by have := this.1; unfold maxLen; omega, by have := this.2; unfold maxLen; omega⟩) (by have := hS.2.1; omega)).mono ?_
        rintro e w2 ⟨rfl, hb2⟩
        have hbel2 : Below w.heap.size w w2 := hbel1.trans (hb2.mono hbel1.size)
        clear hb2 hS c0 c1 c2 hbel hbel1
        rw [show patB y.kd y.L = PE.okB y from rfl]
        generalize PE.okB y = bb at HNo HNk ⊢
        cases bb
        · have HV := hide (HNo.out rfl)
          clear HNo HNk
          go_wp2
          go_ret
          exact ⟨ret_bool (by rw [HF.out, HV.out]), hbel2⟩
        · have HV := hide (HNk.out rfl)
          clear HNo HNk
          go_wp2
          go_roundw
          case rel => exact ⟨k + 1, by omega, by go_num, HV.out, hbel2⟩
          case measure => simp [intOf]; omega
      · have HV : Hid (L.all PE.okB = true) := all_eAt.2 (fun j hj => HA.out j (by rw [← HN.out] at hj; omega))
        go_wp2
        go_ret
        exact ⟨ret_bool (by rw [HF.out, HV.out]), hbel⟩
  · have HF : Hid ((inB n 1 6 && L.all PE.okB) = false) := by unfold Hid; rw [inB_f (by omega)]; rfl

    by_cases hlow : (n : Int) < 1
    · go_enter Tryz.func52, Tryz.ntmps52
      go_wp2
      go_ret
      exact ⟨ret_bool HF.out.symm, Below.refl _ _⟩
    · have hn : (6 : Int) < (n : Int) := by omega
      go_enter Tryz.func52, Tryz.ntmps52
      go_wp2
      go_ret
      exact ⟨ret_bool HF.out.symm, Below.refl _ _⟩

set_option maxRecDepth 100000 in
set_option maxHeartbeats 3200000 in
theorem isBinder_any (kd : ByteArray) (a : Option Addr) (n cap : Nat) (nt : Bool) (w : World) :
    Calls Tryz.prog 55 #[.agg #[.string kd, .slice a n cap, .bool nt]] w fun e w' => e = .returned (.bool (!nt)) ∧ Below w.heap.size w w' := by
  have b0 := below_al w (.cells #[.string kd, .slice a n cap, .bool nt] 86)
  go_enter Tryz.func55, Tryz.ntmps55
  go_wp2
  go_ret
  exact ⟨rfl, b0⟩

set_option maxRecDepth 100000 in
set_option maxHeartbeats 3200000 in
theorem listB_any (a : Option Addr) (cap n : Nat) (L : List PE) (w : World) (hz : L.length = n) (hr : RdPatS w a L) (hm : n ≤ 1048580) :
    Calls Tryz.prog 52 #[.slice a n cap, .int .i64 1, .int .i64 3, .func (.func 55) #[] #[]] w fun e w' =>
      e = .returned (.bool (inB n 1 3 && L.all PE.pos)) ∧ Below w.heap.size w w' := by
  have HN := hide hz.symm
  clear hz
  by_cases h5 : 1 ≤ n ∧ n ≤ 3
  · have HF : Hid ((inB n 1 3 && L.all PE.pos) = L.all PE.pos) := by unfold Hid; rw [inB_t (by omega)]; rfl
    go_enter Tryz.func52, Tryz.ntmps52
    go_wp2
    go_loopw [23] (fun i wr => ∃ (k : Nat), k ≤ n ∧ i = .int .i64 k ∧ (∀ j, j < k → PE.pos (eAt L j) = true) ∧ Below w.heap.size w wr) (fun i _ => n - (intOf i).toNat)
    case atStart => exact ⟨0, Nat.zero_le _, rfl, fun j hj => absurd hj (Nat.not_lt_zero _), Below.refl _ _⟩
    case round =>
      obtain ⟨k, hk, rfl, hall, hbel⟩ := hrel
      have HA := hide hall
      clear hall
      by_cases hlt : k < n
      · have hlL : k < L.length := by rw [← HN.out]; exact hlt
        obtain ⟨b, off, hab, hbw, hc⟩ := (hr.below hbel).cells (by omega)
        obtain ⟨c0, c1, c2, hin⟩ := hc k hlL
        clear hc
        subst hab
        have hS := True.intro
        have HNo : Hid (PE.pos (eAt L k) = false → L.all PE.pos = false) := fun h => by rw [Bool.eq_false_iff]; intro ht; rw [all_eAt.1 ht k hlL] at h; cases h
        have HNk : Hid (PE.pos (eAt L k) = true → ∀ j, j < k + 1 → PE.pos (eAt L j) = true) := fun h j hj => by
          by_cases e : j = k
          · rw [e]; exact h
          · exact HA.out j (by omega)
        have HIn := hide hin
        clear hin
        generalize eAt L k = y at c0 c1 c2 hS HNo HNk HIn
        have hbel1 := hbel.alloc hbel.size (.cells #[.string y.kd, .slice y.a y.L.length y.cap, .bool y.nt] 86)
        go_wp2_with fail
        refine (isBinder_any y.kd y.a y.L.length y.cap y.nt _).mono ?_
        rintro e w2 ⟨rfl, hb2⟩
        have hbel2 : Below w.heap.size w w2 := hbel1.trans (hb2.mono hbel1.size)
        clear hb2 hS c0 c1 c2 hbel hbel1
        rw [show (!y.nt) = PE.pos y from rfl]
        generalize PE.pos y = bb at HNo HNk ⊢
        cases bb
        · have HV := hide (HNo.out rfl)
          clear HNo HNk
          go_wp2
          go_ret
          exact ⟨ret_bool (by rw [HF.out, HV.out]), hbel2⟩
        · have HV := hide (HNk.out rfl)
          clear HNo HNk
          go_wp2
          go_roundw
          case rel => exact ⟨k + 1, by omega, by go_num, HV.out, hbel2⟩
          case measure => simp [intOf]; omega
      · have HV : Hid (L.all PE.pos = true) := all_eAt.2 (fun j hj => HA.out j (by rw [← HN.out] at hj; omega))
        go_wp2
        go_ret
        exact ⟨ret_bool (by rw [HF.out, HV.out]), hbel⟩
  · have HF : Hid ((inB n 1 3 && L.all PE.pos) = false) := by unfold Hid; rw [inB_f (by omega)]; rfl

    by_cases hlow : (n : Int) < 1
    · go_enter Tryz.func52, Tryz.ntmps52
      go_wp2
      go_ret
      exact ⟨ret_bool HF.out.symm, Below.refl _ _⟩
    · have hn : (3 : Int) < (n : Int) := by omega
      go_enter Tryz.func52, Tryz.ntmps52
      go_wp2
      go_ret
      exact ⟨ret_bool HF.out.symm, Below.refl _ _⟩

end Go.Proofs.YtcfhpcbkdpgboaaGreat
