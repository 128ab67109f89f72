/-
  How two matches compare (cmpP), plainly: by the rule, then by how many numbers, then by the first that are unlike; the tested program's and the model's LessMatch and SameMatch.
-/
import Derived.Test.YtfgigcdfmkfkjaaMatchRow
import Derived.Test.YtfgigcdfmkfkjaaBox11
import Derived.Test.YtfgigcdfmkfkjaaShelf
import Derived.Deep.RegionHeld3
namespace Go.Proofs.Ytfgigcdfmkfkjaa
open Go.RowKit
set_option linter.unusedVariables false
set_option maxRecDepth 100000

def cmpL : List Int → List Int → Int
  | [], [] => 0
  | [], _ :: _ => -1
  | _ :: _, [] => 1
  | x :: a, y :: b => if x < y then -1 else if x > y then 1 else cmpL a b
def orL : List Int → Int
  | [] => 0
  | x :: r => if x = 0 then orL r else x
def cmpP (p q : Int × List Int × List B4) : Int := orL [Lib.compareInt p.1 q.1, Lib.compareInt p.2.1.length q.2.1.length, cmpL p.2.1 q.2.1]
theorem cmpL_skip {a b : List Int} : ∀ k, k ≤ a.length → k ≤ b.length → (∀ j, j < k → zAt a j = zAt b j) → cmpL a b = cmpL (a.drop k) (b.drop k)
  | 0, _, _, _ => rfl
  | k + 1, ha, hb, h => by
    have e := h k (by omega)
    rw [zAt_in (by omega), zAt_in (by omega)] at e
    rw [cmpL_skip k (by omega) (by omega) (fun j hj => h j (by omega)), List.drop_eq_getElem_cons (by omega), List.drop_eq_getElem_cons (by omega : k < b.length), cmpL, e, if_neg (by omega), if_neg (by omega)]
theorem cmpL_at {a b : List Int} {k : Nat} (ha : k < a.length) (hb : k < b.length) (h : ∀ j, j < k → zAt a j = zAt b j) (hne : zAt a k ≠ zAt b k) : cmpL a b = Lib.compareInt (zAt a k) (zAt b k) := by
  rw [cmpL_skip k (by omega) (by omega) h, List.drop_eq_getElem_cons ha, List.drop_eq_getElem_cons hb, cmpL, zAt_in ha, zAt_in hb]
  rw [zAt_in ha, zAt_in hb] at hne
  unfold Lib.compareInt
  split
  · rfl
  · split
    · rfl
    · omega
theorem cmpL_more {a b : List Int} {k : Nat} (ha : k < a.length) (hb : k = b.length) (h : ∀ j, j < k → zAt a j = zAt b j) : cmpL a b = 1 := by
  rw [cmpL_skip k (by omega) (by omega) h, List.drop_eq_getElem_cons ha, List.drop_eq_nil_of_le (by omega : b.length ≤ k), cmpL]
theorem cmpL_less {a b : List Int} {k : Nat} (ha : k = a.length) (hb : k < b.length) (h : ∀ j, j < k → zAt a j = zAt b j) : cmpL a b = -1 := by
  rw [cmpL_skip k (by omega) (by omega) h, List.drop_eq_getElem_cons hb, List.drop_eq_nil_of_le (by omega : a.length ≤ k), cmpL]
theorem cmpL_same {a b : List Int} {k : Nat} (ha : k = a.length) (hb : k = b.length) (h : ∀ j, j < k → zAt a j = zAt b j) : cmpL a b = 0 := by
  rw [cmpL_skip k (by omega) (by omega) h]
  have e1 : a.drop k = [] := by rw [ha, List.drop_length]
  have e2 : b.drop k = [] := by rw [hb, List.drop_length]
  rw [e1, e2, cmpL]
theorem cmpL_zero : ∀ {a b : List Int}, cmpL a b = 0 → a = b
  | [], [], _ => rfl
  | [], _ :: _, h => by simp [cmpL] at h
  | _ :: _, [], h => by simp [cmpL] at h
  | x :: a, y :: b, h => by
    rw [cmpL] at h
    split at h
    · omega
    · split at h
      · omega
      · rw [cmpL_zero h, show x = y by omega]
theorem cmpL_refl : ∀ (a : List Int), cmpL a a = 0
  | [] => rfl
  | x :: a => by rw [cmpL, if_neg (by omega), if_neg (by omega), cmpL_refl a]
theorem compareInt_zero {x y : Int} : Lib.compareInt x y = 0 ↔ x = y := by
  unfold Lib.compareInt
  constructor
  · intro h
    split at h
    · omega
    · split at h <;> omega
  · rintro rfl
    rw [if_neg (by omega), if_neg (by omega)]
theorem compareInt_neg {x y : Int} : Lib.compareInt x y < 0 ↔ x < y := by
  unfold Lib.compareInt
  split
  · simp; omega
  · split <;> simp <;> omega
theorem cmpP_rule {p q : Int × List Int × List B4} (h : p.1 ≠ q.1) : cmpP p q = Lib.compareInt p.1 q.1 := by
  unfold cmpP
  rw [orL, if_neg (fun e => h (compareInt_zero.1 e))]
theorem cmpP_len {p q : Int × List Int × List B4} (h : p.1 = q.1) (hl : p.2.1.length ≠ q.2.1.length) : cmpP p q = Lib.compareInt p.2.1.length q.2.1.length := by
  unfold cmpP
  rw [orL, if_pos (compareInt_zero.2 h), orL, if_neg (fun e => hl (by have := compareInt_zero.1 e; omega))]
theorem cmpP_ids {p q : Int × List Int × List B4} (h : p.1 = q.1) (hl : p.2.1.length = q.2.1.length) : cmpP p q = cmpL p.2.1 q.2.1 := by
  unfold cmpP
  rw [orL, if_pos (compareInt_zero.2 h), orL, if_pos (compareInt_zero.2 (by omega)), orL]
  split
  · rename_i e; rw [e]; rfl
  · rfl
theorem cmpP_zero {p q : Int × List Int × List B4} : cmpP p q = 0 ↔ p.1 = q.1 ∧ p.2.1 = q.2.1 := by
  by_cases h : p.1 = q.1
  · by_cases hl : p.2.1.length = q.2.1.length
    · rw [cmpP_ids h hl]
      exact ⟨fun e => ⟨h, cmpL_zero e⟩, fun e => by rw [e.2]; exact cmpL_refl _⟩
    · rw [cmpP_len h hl, compareInt_zero]
      exact ⟨fun e => absurd (by omega) hl, fun e => absurd (by rw [e.2]) hl⟩
  · rw [cmpP_rule h, compareInt_zero]
    exact ⟨fun e => absurd e h, fun e => absurd e.1 h⟩
theorem orL_skip {zs : List Int} : ∀ k, k ≤ zs.length → (∀ j, j < k → zAt zs j = 0) → orL zs = orL (zs.drop k)
  | 0, _, _ => rfl
  | k + 1, hk, h => by
    have e := h k (by omega)
    rw [zAt_in (by omega)] at e
    rw [orL_skip k (by omega) (fun j hj => h j (by omega)), List.drop_eq_getElem_cons (by omega), orL, if_pos e]
theorem orL_at {zs : List Int} {k : Nat} (hk : k < zs.length) (h : ∀ j, j < k → zAt zs j = 0) (hne : zAt zs k ≠ 0) : orL zs = zAt zs k := by
  rw [orL_skip k (by omega) h, List.drop_eq_getElem_cons hk, orL, zAt_in hk, if_neg (by rw [← zAt_in hk]; exact hne)]
theorem orL_none {zs : List Int} (h : ∀ j, j < zs.length → zAt zs j = 0) : orL zs = 0 := by
  rw [orL_skip zs.length (Nat.le_refl _) h, List.drop_length, orL]

set_option maxHeartbeats 1600000 in
theorem cmpOr_any (a : Option Addr) (n cap : Nat) (zs : List Int) (w : World) (hr : RdN w a zs) (hz : zs.length = n) (hn : n ≤ 1048580) :
    Calls Try.prog 85 #[.slice a n cap] w fun e w' => e = .returned (.int .i64 (orL zs)) ∧ w' = w := by
  have HZ := hide hz
  clear hz
  go_enter Try.func85, Try.ntmps85
  go_wp2
  go_loop [8] (fun i => ∃ (k : Nat), k ≤ n ∧ i = .int .i64 k ∧ (∀ j, j < k → zAt zs j = 0)) (fun i => n - (intOf i).toNat)
  case atStart => exact ⟨0, Nat.zero_le _, rfl, fun j hj => absurd hj (Nat.not_lt_zero _)⟩
  case round =>
    obtain ⟨k, hk, rfl, hall⟩ := hrel
    have HA := hide hall
    clear hall
    by_cases hlt : k < n
    · have hkz : k < zs.length := by rw [HZ.out]; exact hlt
      obtain ⟨b, off, hab, hbw, hc⟩ := hr.open (by omega)
      have c0 := hc k hkz
      clear hc
      subst hab
      have HV : Hid (zAt zs k ≠ 0 → orL zs = zAt zs k) := orL_at hkz HA.out
      have HN : Hid (zAt zs k = 0 → ∀ j, j < k + 1 → zAt zs j = 0) := fun h j hj => by
        by_cases e : j = k
        · rw [e]; exact h
        · exact HA.out j (by omega)
      generalize zAt zs k = z at c0 HV HN
      by_cases h0 : z = 0
      · have HN2 := hide (HN.out h0)
        have k1 : (z != 0) = false := by simp [h0]
        clear HV HN h0
        go_wp2
        go_round
        case rel => exact ⟨k + 1, by omega, by go_num, HN2.out⟩
        case measure => simp [intOf]; omega
      · have HV2 := hide (HV.out h0)
        have k1 : (z != 0) = true := by simp [h0]
        clear HV HN h0
        go_wp2
        go_ret
        exact ⟨by rw [HV2.out]; rfl, rfl⟩
    · have HV := hide (orL_none (zs := zs) (fun j hj => HA.out j (by rw [HZ.out] at hj; omega)))
      go_wp2
      go_ret
      exact ⟨by rw [HV.out]; rfl, rfl⟩

set_option maxHeartbeats 1600000 in
theorem sCompare_any (a b : Option Addr) (n m ca cb : Nat) (zs ys : List Int) (w : World) (hr : RdN w a zs) (hq : RdN w b ys) (hz : zs.length = n) (hy : ys.length = m) (hn : n ≤ 1048580) (hm : m ≤ 1048580) :
    Calls Try.prog 87 #[.slice a n ca, .slice b m cb] w fun e w' => e = .returned (.int .i64 (cmpL zs ys)) ∧ w' = w := by
  have HZ := hide hz
  have HY := hide hy
  clear hz hy
  go_enter Try.func87, Try.ntmps87
  go_wp2
  go_loop [11] (fun i => ∃ (k : Nat), k ≤ n ∧ k ≤ m ∧ i = .int .i64 k ∧ (∀ j, j < k → zAt zs j = zAt ys j)) (fun i => n - (intOf i).toNat)
  case atStart => exact ⟨0, Nat.zero_le _, Nat.zero_le _, rfl, fun j hj => absurd hj (Nat.not_lt_zero _)⟩
  case round =>
    obtain ⟨k, hk, hkm, rfl, hall⟩ := hrel
    have HA := hide hall
    clear hall
    by_cases hlt : k < n
    · have hkz : k < zs.length := by rw [HZ.out]; exact hlt
      obtain ⟨b1, o1, e1, -, hc1⟩ := hr.open (by omega)
      have c0 := hc1 k hkz
      clear hc1
      subst e1
      by_cases hlm : k < m
      · have hky : k < ys.length := by rw [HY.out]; exact hlm
        obtain ⟨b2, o2, e2, -, hc2⟩ := hq.open (by omega)
        have d0 := hc2 k hky
        clear hc2
        subst e2
        have HV : Hid (zAt zs k ≠ zAt ys k → cmpL zs ys = Lib.compareInt (zAt zs k) (zAt ys k)) := cmpL_at hkz hky HA.out
        have HN : Hid (zAt zs k = zAt ys k → ∀ j, j < k + 1 → zAt zs j = zAt ys j) := fun h j hj => by
          by_cases e : j = k
          · rw [e]; exact h
          · exact HA.out j (by omega)
        generalize zAt zs k = z at c0 HV HN
        generalize zAt ys k = y at d0 HV HN
        have hnge : ¬ ((k : Int) ≥ (m : Int)) := by omega
        go_wp2_with fail
        refine (Try.cmp_Compare_int z y _).mono ?_
        rintro e w1 ⟨rfl, rfl⟩
        by_cases h0 : z = y
        · have HN2 := hide (HN.out h0)
          have hc0 : Lib.compareInt z y = 0 := compareInt_zero.2 h0
          rw [hc0]
          clear HV HN h0 hc0
          go_wp2
          go_round
          case rel => exact ⟨k + 1, by omega, by omega, by go_num, HN2.out⟩
          case measure => simp [intOf]; omega
        · have HV2 := hide (HV.out h0)
          have k1 : (Lib.compareInt z y != 0) = true := by simp [compareInt_zero, h0]
          generalize Lib.compareInt z y = c at k1 HV2
          clear HV HN h0
          go_wp2
          go_ret
          exact ⟨by rw [HV2.out]; rfl, rfl⟩
      · have HV := hide (cmpL_more (a := zs) (b := ys) hkz (by rw [HY.out]; omega) HA.out)
        have hge : (k : Int) ≥ (m : Int) := by omega
        go_wp2
        go_ret
        exact ⟨by rw [HV.out]; rfl, rfl⟩
    · by_cases hlm : n < m
      · have HV := hide (cmpL_less (a := zs) (b := ys) (k := k) (by rw [HZ.out]; omega) (by rw [HY.out]; omega) HA.out)
        have hl2 : (n : Int) < (m : Int) := by omega
        go_wp2
        go_ret
        exact ⟨by rw [HV.out]; rfl, rfl⟩
      · have HV := hide (cmpL_same (a := zs) (b := ys) (k := k) (by rw [HZ.out]; omega) (by rw [HY.out]; omega) HA.out)
        have hl2 : ¬ ((n : Int) < (m : Int)) := by omega
        go_wp2
        go_ret
        exact ⟨by rw [HV.out]; rfl, rfl⟩
end Go.Proofs.Ytfgigcdfmkfkjaa
