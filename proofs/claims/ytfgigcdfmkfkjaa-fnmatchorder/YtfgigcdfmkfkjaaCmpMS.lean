/-
  The model's LessMatch and SameMatch: cmpP.
-/
import Derived.Test.YtfgigcdfmkfkjaaCmpM
import Derived.Test.YtfgigcdfmkfkjaaKeepM
import Derived.Deep.QuietTactic
import Derived.BigQuiet
namespace Go.Proofs.Ytfgigcdfmkfkjaa
open Go.RowKit
set_option linter.unusedVariables false
set_option maxRecDepth 100000

theorem below_dn2 {w u : World} {n : Nat} (h : Below w.heap.size w u) : Below w.heap.size w (u.drewN n) := h.trans ((show Below u.heap.size u (u.drewN n) from ⟨rfl, rfl, rfl, Nat.le_refl _, fun _ _ => rfl⟩).mono h.size)
set_option maxHeartbeats 3200000 in
theorem specLessMatch_any (x y : ME) (w : World) (hx : RdMatch w x) (hy : RdMatch w y) (hlx : x.nI ≤ 1048580) (hly : y.nI ≤ 1048580) :
    Calls Try.prog 14 #[.agg #[.int .i64 x.r, .slice x.aI x.nI x.cI, .slice x.aB x.nB x.cB], .agg #[.int .i64 y.r, .slice y.aI y.nI y.cI, .slice y.aB y.nB y.cB]] w fun e w' => (∃ t, e = .returned (.bool t) ∧ Hid (t = decide (cmpP x.pl y.pl < 0))) ∧ Below w.heap.size w w' := by
  obtain ⟨hX, hY, b1⟩ := boxes2 w #[.int .i64 x.r, .slice x.aI x.nI x.cI, .slice x.aB x.nB x.cB] #[.int .i64 y.r, .slice y.aI y.nI y.cI, .slice y.aB y.nB y.cB] 30 30
  have hx1 := hx.below b1
  have hy1 := hy.below b1
  have x0 := boxk_cell hX 0 _ rfl
  have x1 := boxk_cell hX 1 _ rfl
  have y0 := boxk_cell hY 0 _ rfl
  have y1 := boxk_cell hY 1 _ rfl
  have HNx := hide hx.ni
  have HNy := hide hy.ni
  have rx := hx1.i
  have ry := hy1.i
  clear hX hY hx hy hx1 hy1
  go_enter Try.func14, Try.ntmps14
  by_cases hr : x.r = y.r
  · have kr : (x.r != y.r) = false := by simp [hr]
    by_cases hl : x.nI = y.nI
    · have kl : ((x.nI : Int) != (y.nI : Int)) = false := by simp [hl]
      have HO : Hid (cmpP x.pl y.pl = cmpL x.zs y.zs) := cmpP_ids hr (by show x.zs.length = y.zs.length; rw [HNx.out, HNy.out, hl])
      obtain ⟨n, hn⟩ : ∃ n, Hid (x.nI = n) := ⟨_, rfl⟩
      have hn2 : Hid (y.nI = n) := by unfold Hid; rw [← hl]; exact hn.out
      rw [hn.out] at HNx hlx x1 kl b1 rx ry x0 y0 y1
      rw [hn2.out] at HNy hly y1 kl b1 rx ry x0 x1 y0
      rw [hn.out, hn2.out]
      clear hl hr
      go_wp2
      generalize (w.alloc (.cells #[.int .i64 x.r, .slice x.aI n x.cI, .slice x.aB x.nB x.cB] 30)).alloc (.cells #[.int .i64 y.r, .slice y.aI n y.cI, .slice y.aB y.nB y.cB] 30) = w1 at b1 rx ry x0 x1 y0 y1 ⊢
      go_loopw [5] (fun i wr => ∃ (k nd : Nat), k ≤ n ∧ i = .int .i64 k ∧ (∀ j, j < k → zAt x.zs j = zAt y.zs j) ∧ wr = w1.drewN nd) (fun i _ => n - (intOf i).toNat)
      case atStart => exact ⟨0, 0, Nat.zero_le _, rfl, fun j hj => absurd hj (Nat.not_lt_zero _), rfl⟩
      case round =>
        obtain ⟨k, nd, hk, rfl, hall, rfl⟩ := hrel
        have HA := hide hall
        clear hall
        by_cases hlt : k < n
        · have hkx : k < x.zs.length := by rw [HNx.out]; exact hlt
          have hky : k < y.zs.length := by rw [HNy.out]; exact hlt
          obtain ⟨b1', o1, e1, -, hc1⟩ := rx.open (by omega)
          obtain ⟨b2', o2, e2, -, hc2⟩ := ry.open (by omega)
          have c0 := hc1 k hkx
          have d0 := hc2 k hky
          have l1 : (k : Int) < (n : Int) := by omega
          have HV : Hid (zAt x.zs k ≠ zAt y.zs k → cmpL x.zs y.zs = Lib.compareInt (zAt x.zs k) (zAt y.zs k)) := cmpL_at hkx hky HA.out
          have HN : Hid (zAt x.zs k = zAt y.zs k → ∀ j, j < k + 1 → zAt x.zs j = zAt y.zs j) := fun h j hj => by
            by_cases e : j = k
            · rw [e]; exact h
            · exact HA.out j (by omega)
          clear hc1 hc2 hkx hky
          rw [e1] at x1
          rw [e2] at y1
          clear e1 e2
          generalize zAt x.zs k = z at c0 HV HN
          generalize zAt y.zs k = z' at d0 HV HN
          by_cases h0 : z = z'
          · have HN2 := hide (HN.out h0)
            have k1 : (z != z') = false := by simp [h0]
            clear HV HN h0
            go_wp2
            go_quiet (fail)
            go_wp2
            go_roundw
            case rel => exact ⟨k + 1, _, by omega, by go_num, HN2.out, rfl⟩
            case measure => simp [intOf]; omega
          · have HV2 := hide (HV.out h0)
            have k1 : (z != z') = true := by simp [h0]
            have HD : Hid (decide (z < z') = decide (cmpP x.pl y.pl < 0)) := by
              unfold Hid; rw [HO.out, HV2.out, decide_eq_decide, compareInt_neg]
            clear HV HN h0 HV2
            go_wp2
            go_quiet (fail)
            go_wp2
            go_quiet (fail)
            go_wp2
            go_ret
            exact ⟨⟨_, rfl, HD⟩, below_dn2 (below_dn2 (below_dn2 b1))⟩
        · have hke : k = n := by omega
          have HV : Hid (false = decide (cmpP x.pl y.pl < 0)) := by
            unfold Hid; rw [HO.out, cmpL_same (k := k) (by rw [HNx.out]; exact hke) (by rw [HNy.out]; exact hke) HA.out]; rfl
          clear hke
          go_wp2
          go_ret
          exact ⟨⟨_, rfl, HV⟩, below_dn2 b1⟩
    · have kl : ((x.nI : Int) != (y.nI : Int)) = true := by simp; omega
      have HD : Hid (decide (x.nI < y.nI) = decide (cmpP x.pl y.pl < 0)) := by
        unfold Hid
        rw [cmpP_len hr (by show x.zs.length ≠ y.zs.length; rw [HNx.out, HNy.out]; exact hl), decide_eq_decide, compareInt_neg]
        show _ ↔ (x.zs.length : Int) < (y.zs.length : Int)
        rw [HNx.out, HNy.out]
        omega
      clear hr hl
      go_wp2
      go_ret
      exact ⟨⟨_, rfl, HD⟩, b1⟩
  · have kr : (x.r != y.r) = true := by simp [hr]
    have HD : Hid (decide (x.r < y.r) = decide (cmpP x.pl y.pl < 0)) := by
      unfold Hid
      rw [cmpP_rule hr, decide_eq_decide, compareInt_neg]
      exact Iff.rfl
    clear hr
    go_wp2
    go_ret
    exact ⟨⟨_, rfl, HD⟩, b1⟩

theorem zs_same {a b : List Int} (hl : a.length = b.length) (h : ∀ j, j < a.length → zAt a j = zAt b j) : a = b := by
  apply List.ext_getElem hl
  intro i h1 h2
  have := h i h1
  rw [zAt_in h1, zAt_in h2] at this
  exact this
set_option maxHeartbeats 1600000 in
theorem l11Same_any (a b : Option Addr) (n m ca cb : Nat) (zs ys : List Int) (w : World) (hr : RdN w a zs) (hq : RdN w b ys) (hz : zs.length = n) (hy : ys.length = m) (hn : n ≤ 1048580) (hm : m ≤ 1048580) :
    Calls Try.prog 47 #[.slice a n ca, .slice b m cb] w fun e w' => (∃ t, e = .returned (.bool t) ∧ Hid (t = decide (zs = ys))) ∧ Below w.heap.size w w' := by
  have HZ := hide hz
  have HY := hide hy
  clear hz hy
  go_enter Try.func47, Try.ntmps47
  by_cases hl : n = m
  · have kl : ((n : Int) != (m : Int)) = false := by simp [hl]
    subst hl
    go_wp2
    go_loopw [5] (fun i wr => ∃ (k nd : Nat), k ≤ n ∧ i = .int .i64 k ∧ (∀ j, j < k → zAt zs j = zAt ys j) ∧ wr = w.drewN nd) (fun i _ => n - (intOf i).toNat)
    case atStart => exact ⟨0, 0, Nat.zero_le _, rfl, fun j hj => absurd hj (Nat.not_lt_zero _), rfl⟩
    case round =>
      obtain ⟨k, nd, hk, rfl, hall, rfl⟩ := hrel
      have HA := hide hall
      clear hall
      by_cases hlt : k < n
      · have hkx : k < zs.length := by rw [HZ.out]; exact hlt
        have hky : k < ys.length := by rw [HY.out]; exact hlt
        obtain ⟨b1, o1, e1, -, hc1⟩ := hr.open (by omega)
        obtain ⟨b2, o2, e2, -, hc2⟩ := hq.open (by omega)
        have c0 := hc1 k hkx
        have d0 := hc2 k hky
        have l1 : (k : Int) < (n : Int) := by omega
        have HV : Hid (zAt zs k ≠ zAt ys k → zs ≠ ys) := fun h e => h (by rw [e])
        have HN : Hid (zAt zs k = zAt ys k → ∀ j, j < k + 1 → zAt zs j = zAt ys j) := fun h j hj => by
          by_cases e : j = k
          · rw [e]; exact h
          · exact HA.out j (by omega)
        clear hc1 hc2 hkx hky
        subst e1 e2
        generalize zAt zs k = z at c0 HV HN
        generalize zAt ys k = z' at d0 HV HN
        by_cases h0 : z = z'
        · have HN2 := hide (HN.out h0)
          have k1 : (z != z') = false := by simp [h0]
          clear HV HN h0
          go_wp2
          go_quiet (fail)
          go_wp2
          go_roundw
          case rel => exact ⟨k + 1, _, by omega, by go_num, HN2.out, rfl⟩
          case measure => simp [intOf]; omega
        · have HD : Hid (false = decide (zs = ys)) := by have := HV.out h0; unfold Hid; simp [this]
          have k1 : (z != z') = true := by simp [h0]
          clear HV HN h0
          go_wp2
          go_quiet (fail)
          go_wp2
          go_ret
          exact ⟨⟨_, rfl, HD⟩, below_dn2 (below_dn2 (Below.refl _ _))⟩
      · have HD : Hid (true = decide (zs = ys)) := by
          have h1 : zs = ys := zs_same (by rw [HZ.out, HY.out]) (fun j hj => HA.out j (by rw [HZ.out] at hj; omega))
          unfold Hid; simp [h1]
        go_wp2
        go_ret
        exact ⟨⟨_, rfl, HD⟩, below_dn' (Below.refl _ _)⟩
  · have kl : ((n : Int) != (m : Int)) = true := by simp; omega
    have HD : Hid (false = decide (zs = ys)) := by
      have h1 : zs ≠ ys := fun e => hl (by rw [← HZ.out, ← HY.out, e])
      unfold Hid; simp [h1]
    clear hl
    go_wp2
    go_ret
    exact ⟨⟨_, rfl, HD⟩, Below.refl _ _⟩

set_option maxHeartbeats 1600000 in
theorem specSameMatch_any (x y : ME) (w : World) (hx : RdMatch w x) (hy : RdMatch w y) (hlx : x.nI ≤ 1048580) (hly : y.nI ≤ 1048580) :
    Calls Try.prog 10 #[.agg #[.int .i64 x.r, .slice x.aI x.nI x.cI, .slice x.aB x.nB x.cB], .agg #[.int .i64 y.r, .slice y.aI y.nI y.cI, .slice y.aB y.nB y.cB]] w fun e w' => (∃ t, e = .returned (.bool t) ∧ Hid (t = decide (cmpP x.pl y.pl = 0))) ∧ Below w.heap.size w w' := by
  obtain ⟨hX, hY, b1⟩ := boxes2 w #[.int .i64 x.r, .slice x.aI x.nI x.cI, .slice x.aB x.nB x.cB] #[.int .i64 y.r, .slice y.aI y.nI y.cI, .slice y.aB y.nB y.cB] 30 30
  have hx1 := hx.below b1
  have hy1 := hy.below b1
  have x0 := boxk_cell hX 0 _ rfl
  have x1 := boxk_cell hX 1 _ rfl
  have y0 := boxk_cell hY 0 _ rfl
  have y1 := boxk_cell hY 1 _ rfl
  have HNx := hide hx.ni
  have HNy := hide hy.ni
  clear hX hY hx hy
  go_enter Try.func10, Try.ntmps10
  by_cases hr : x.r = y.r
  · have kr : (x.r == y.r) = true := by simp [hr]
    have HR := hide hr
    clear hr
    go_wp2_with fail
    refine (l11Same_any x.aI y.aI x.nI y.nI x.cI y.cI x.zs y.zs _ hx1.i hy1.i HNx.out HNy.out hlx hly).mono ?_
    rintro e w1 ⟨⟨t, rfl, ht⟩, hb⟩
    have hB : Below w.heap.size w w1 := b1.trans (hb.mono b1.size)
    have HD : Hid (t = decide (cmpP x.pl y.pl = 0)) := by
      unfold Hid
      rw [ht.out, decide_eq_decide, cmpP_zero]
      exact ⟨fun e => ⟨HR.out, e⟩, fun e => e.2⟩
    clear hb b1 x0 x1 y0 y1 hx1 hy1 ht
    go_wp2
    go_ret
    exact ⟨⟨_, rfl, HD⟩, hB⟩
  · have kr : (x.r == y.r) = false := by simp [hr]
    have HD : Hid (false = decide (cmpP x.pl y.pl = 0)) := by
      have h1 : ¬ (cmpP x.pl y.pl = 0) := fun e => hr (cmpP_zero.1 e).1
      unfold Hid; simp [h1]
    clear hr
    go_wp2
    go_ret
    exact ⟨⟨_, rfl, HD⟩, b1⟩
end Go.Proofs.Ytfgigcdfmkfkjaa
