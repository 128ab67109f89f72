/-
  When a definition is right (defB), plainly; what the tested DefOk answers.
-/
import Derived.Test.YtcfhpcbkdpgboaaGreatJoined1
import Derived.Test.YtcfhpcbkdpgboaaGreatJRuleOkI
namespace Go.Proofs.YtcfhpcbkdpgboaaGreat
open Go.RowKit
set_option linter.unusedVariables false

/-- a later rule of one name would not be at its own place -/
def firstB (L : List RE) : Bool := (List.range L.length).all (fun i => decide (ixOf L (eAt L i).nm = (i : Int)))
def defB (x : DE) : Bool := nameB x.nm && inB x.nR 1 12 && x.R.all ruleB && firstB x.R
theorem firstB_pl {K J : List RE} (h : K.map RE.pl = J.map RE.pl) : firstB K = firstB J := by
  have hl := map_len h
  rw [Bool.eq_iff_iff]
  unfold firstB
  simp only [List.all_eq_true, List.mem_range, decide_eq_true_eq]
  constructor
  · intro g i hi
    have := g i (by omega)
    rw [← ixOf_pl h, ← (RE.pl_inj (map_at h (i := i) (by omega))).1]; exact this
  · intro g i hi
    have := g i (by omega)
    rw [ixOf_pl h, (RE.pl_inj (map_at h hi)).1]; exact this
theorem allR_pl {K J : List RE} (h : K.map RE.pl = J.map RE.pl) : K.all ruleB = J.all ruleB := by
  have hl := map_len h
  rw [Bool.eq_iff_iff, all_eAt, all_eAt]
  constructor
  · intro g i hi; rw [← ruleB_pl (map_at h (i := i) (by omega))]; exact g i (by omega)
  · intro g i hi; rw [ruleB_pl (map_at h hi)]; exact g i (by omega)
theorem defB_pl {x y : DE} (h : y.pl = x.pl) (hx : x.R.length = x.nR) (hy : y.R.length = y.nR) : defB y = defB x := by
  obtain ⟨e1, e2⟩ := DE.pl_inj h
  unfold defB
  rw [e1, allR_pl e2, firstB_pl e2, ← hx, ← hy, map_len e2]
theorem OwnDef.caps {w : World} {lo hi : Nat} {x : DE} (h : OwnDef w lo hi x) : ∀ r ∈ x.R, r.nP ≤ r.cP := fun r hr => by
  obtain ⟨g, e1, o1⟩ := h.own
  obtain ⟨i, hi', rfl⟩ := mem_eAt hr
  obtain ⟨s, e, l, hh, -, -, h4⟩ := o1.at hi'
  exact h4.capP
theorem cell_step {W w' : World} {a : Addr} {v : Value} (hb : Below W.heap.size W w') (h : W.cell? a = some v) : w'.cell? a = some v := by rw [hb.cell (World.block_lt_of_cell? W _ h)]; exact h

set_option maxRecDepth 100000 in
set_option maxHeartbeats 3200000 in
theorem listR_any (a : Option Addr) (n cap : Nat) (J : List RE) (w : World) (hz : J.length = n) (hr : RdRuleS w a J) (hs : ∀ r ∈ J, r.small) (hc : ∀ r ∈ J, r.nP ≤ r.cP) (hn : n ≤ 1048580) :
    Calls Tryz.prog 16 #[.slice a n cap, .int .i64 1, .int .i64 12, .func (.func 17) #[] #[]] w fun e w' =>
      e = .returned (.bool (inB n 1 12 && J.all ruleB)) ∧ Below w.heap.size w w' := by
  have HZ := hide hz
  have HS := hide hs
  have HC := hide hc
  clear hz hs hc
  by_cases h1 : n < 1
  · have HF : Hid ((inB n 1 12 && J.all ruleB) = false) := by unfold Hid inB; rw [decide_eq_false (by omega)]; rfl
    have h1i : (n : Int) < 1 := by omega
    go_enter Tryz.func16, Tryz.ntmps16
    go_wp2
    go_ret
    exact ⟨ret_bool HF.out.symm, Below.refl _ _⟩
  · have h1i : ¬ ((n : Int) < 1) := by omega
    by_cases h2 : 12 < n
    · have HF : Hid ((inB n 1 12 && J.all ruleB) = false) := by unfold Hid inB; rw [decide_eq_false (p := (n : Int) ≤ 12) (by omega)]; simp
      have h2i : (12 : Int) < (n : Int) := by omega
      go_enter Tryz.func16, Tryz.ntmps16
      go_wp2
      go_ret
      exact ⟨ret_bool HF.out.symm, Below.refl _ _⟩
    · have h2i : ¬ ((12 : Int) < (n : Int)) := by omega
      have HF : Hid ((inB n 1 12 && J.all ruleB) = J.all ruleB) := by unfold Hid inB; rw [decide_eq_true (by omega), decide_eq_true (by omega)]; rfl
      go_enter Tryz.func16, Tryz.ntmps16
      go_wp2
      go_loopw [23] (fun i wr => ∃ (k : Nat), k ≤ n ∧ i = .int .i64 k ∧ (∀ j, j < k → ruleB (eAt J j) = true) ∧ Below w.heap.size w wr) (fun i _ => n - (intOf i).toNat)
      case atStart => exact ⟨0, Nat.zero_le _, rfl, fun j hj => absurd hj (Nat.not_lt_zero _), Below.refl _ _⟩
      case round =>
        obtain ⟨k, hk, rfl, hall, hbel⟩ := hrel
        have HA := hide hall
        clear hall
        by_cases hlt : k < n
        · have hlL : k < J.length := by rw [HZ.out]; exact hlt
          obtain ⟨b, off, hab, hbw, hc⟩ := (hr.below hbel).cells (by omega)
          obtain ⟨c0, c1, c2, c3, c4, hin⟩ := hc k hlL
          clear hc
          subst hab
          have hS := HS.out _ (eAt_mem hlL)
          have hCp := HC.out _ (eAt_mem hlL)
          have HNk : Hid (ruleB (eAt J k) = true → ∀ j, j < k + 1 → ruleB (eAt J j) = true) := fun h j hj => by
            by_cases e : j = k
            · rw [e]; exact h
            · exact HA.out j (by omega)
          have HNo : Hid (ruleB (eAt J k) = false → J.all ruleB = false) := fun h => by
            rw [Bool.eq_false_iff]; intro ht
            rw [all_eAt.1 ht k hlL] at h; cases h
          have HIn := hide hin
          clear hin
          generalize eAt J k = y at c0 c1 c2 c3 c4 HIn hS hCp HNk HNo
          have b1 := below_al wr (.cells #[.string y.nm, .int .i64 y.sal, .slice y.aP y.nP y.cP, .slice y.aC y.nC y.cC, .slice y.aA y.nA y.cA] 39)
          have hbel1 : Below w.heap.size w (wr.alloc (.cells #[.string y.nm, .int .i64 y.sal, .slice y.aP y.nP y.cP, .slice y.aC y.nC y.cC, .slice y.aA y.nA y.cA] 39)) := hbel.trans (b1.mono hbel.size)
          go_wp2_with fail
          refine (implRuleOk_any y _ (HIn.out.below b1) hS hCp).mono ?_
          rintro e w2 ⟨rfl, hb2⟩
          have hbel2 : Below w.heap.size w w2 := hbel1.trans (hb2.mono hbel1.size)
          clear hb2 hbel1 b1 c0 c1 c2 c3 c4 HIn hS hCp hbel
          cases hv : ruleB y
          · have HV := hide (HNo.out hv)
            clear hv HNo HNk
            go_wp2
            go_ret
            exact ⟨ret_bool (by rw [HF.out, HV.out]), hbel2⟩
          · have HV := hide (HNk.out hv)
            clear hv HNo HNk
            go_wp2
            go_roundw
            case rel => exact ⟨k + 1, by omega, by go_num, HV.out, hbel2⟩
            case measure => simp [intOf]; omega
        · have HV : Hid (J.all ruleB = true) := by
            unfold Hid
            rw [all_eAt]; intro j hj
            rw [HZ.out] at hj
            exact HA.out j (by omega)
          go_wp2
          go_ret
          exact ⟨ret_bool (by rw [HF.out, HV.out]), hbel⟩

set_option maxRecDepth 100000 in
set_option maxHeartbeats 3200000 in
theorem eachFirst_any (dn : ByteArray) (aR : Option Addr) (n cR : Nat) (R : List RE) (w : World) (hz : R.length = n) (hr : RdRuleS w aR R) (hn : n ≤ 1048580) :
    Calls Tryz.prog 18 #[.agg #[.string dn, .slice aR n cR]] w fun e w' => e = .returned (.bool (firstB R)) ∧ Below w.heap.size w w' := by
  have HZ := hide hz
  clear hz
  have b0 := below_al w (.cells #[.string dn, .slice aR n cR] 29)
  have hA := boxk_new w #[.string dn, .slice aR n cR] 29
  have hz1 : w.heap.size < (w.alloc (.cells #[.string dn, .slice aR n cR] 29)).heap.size := by simp
  go_enter Tryz.func18, Tryz.ntmps18
  go_wp2
  generalize w.alloc (.cells #[.string dn, .slice aR n cR] 29) = w1 at b0 hA hz1 ⊢
  go_loopw [8] (fun i wr => ∃ (k : Nat), k ≤ n ∧ i = .int .i64 k ∧ (∀ j, j < k → ixOf R (eAt R j).nm = (j : Int)) ∧ Below w1.heap.size w1 wr) (fun i _ => n - (intOf i).toNat)
  case atStart => exact ⟨0, Nat.zero_le _, rfl, fun j hj => absurd hj (Nat.not_lt_zero _), Below.refl _ _⟩
  case round =>
    obtain ⟨k, hk, rfl, hall, hbel⟩ := hrel
    have HA := hide hall
    clear hall
    have HB1 := hide (b0.trans (hbel.mono b0.size))
    have HX := hide (box_below hA hbel hz1)
    by_cases hlt : k < n
    · have hlL : k < R.length := by rw [HZ.out]; exact hlt
      have HRa := hide (hr.below HB1.out)
      obtain ⟨b, off, hab, hbw, hc⟩ := HRa.out.cells (by omega)
      obtain ⟨c0, c1, c2, c3, c4, -⟩ := hc k hlL
      clear hc
      subst hab
      have HNk : Hid (ixOf R (eAt R k).nm = (k : Int) → ∀ j, j < k + 1 → ixOf R (eAt R j).nm = (j : Int)) := fun h j hj => by
        by_cases e : j = k
        · rw [e]; exact h
        · exact HA.out j (by omega)
      have HNo : Hid (ixOf R (eAt R k).nm ≠ (k : Int) → firstB R = false) := fun h => by
        rw [Bool.eq_false_iff]; intro ht
        unfold firstB at ht
        rw [List.all_eq_true] at ht
        exact h (of_decide_eq_true (ht k (List.mem_range.2 hlL)))
      generalize eAt R k = y at c0 c1 c2 c3 c4 HNk HNo
      have b1 := below_al wr (.cells #[.string y.nm, .int .i64 y.sal, .slice y.aP y.nP y.cP, .slice y.aC y.nC y.cC, .slice y.aA y.nA y.cA] 39)
      have HX1 := hide (box_step HX.out b1)
      have a0 := boxk_cell HX1.out 0 _ rfl
      have a1 := boxk_cell HX1.out 1 _ rfl
      have HB2 := hide (hbel.trans (b1.mono hbel.size))
      have HRb := hide (HRa.out.below b1)
      go_wp2_with fail
      refine (implRuleAt_any ⟨dn, some ⟨b, off, none⟩, n, cR, R⟩ y.nm _ ⟨HRb.out, HZ.out⟩ hn).mono ?_
      rintro e w2 ⟨rfl, hb2⟩
      have hbel2 : Below w1.heap.size w1 w2 := HB2.out.trans (hb2.mono HB2.out.size)
      clear hb2 b1 c0 c1 c2 c3 c4 a0 a1 HX1 HX HB2 HRb HRa hbel
      generalize ixOf R y.nm = v at HNk HNo ⊢
      by_cases hv : v = (k : Int)
      · have HV := hide (HNk.out hv)
        have q1 : (v != (k : Int)) = false := by simpa using hv
        clear HNo HNk hv
        go_wp2
        go_roundw
        case rel => exact ⟨k + 1, by omega, by go_num, HV.out, hbel2⟩
        case measure => simp [intOf]; omega
      · have HV := hide (HNo.out hv)
        have q1 : (v != (k : Int)) = true := by simpa using hv
        clear HNo HNk hv
        go_wp2
        go_ret
        exact ⟨ret_bool (by rw [HV.out]), b0.trans (hbel2.mono b0.size)⟩
    · have HV : Hid (firstB R = true) := by
        unfold Hid firstB
        rw [List.all_eq_true]; intro j hj
        rw [List.mem_range, HZ.out] at hj
        exact decide_eq_true (HA.out j (by omega))
      go_wp2
      go_ret
      exact ⟨ret_bool (by rw [HV.out]), HB1.out⟩

set_option maxRecDepth 100000 in
set_option maxHeartbeats 3200000 in
theorem implDefOk_any (x : DE) (w : World) (hr : RdDef w x) (hs : x.small) (hc : ∀ r ∈ x.R, r.nP ≤ r.cP) :
    Calls Tryz.prog 7 #[.agg #[.string x.nm, .slice x.aR x.nR x.cR]] w fun e w' => e = .returned (.bool (defB x)) ∧ Below w.heap.size w w' := by
  obtain ⟨dn, aR, n, cR, R⟩ := x
  obtain ⟨s1, s2⟩ := hs
  have hz : R.length = n := hr.nr
  have hrr : RdRuleS w aR R := hr.r
  unfold DE.sz at s1
  simp only at s1 s2 hc ⊢
  have hn : n ≤ 1048580 := by omega
  have hkd : dn.size ≤ maxLen := by unfold maxLen; omega
  have HD : Hid (defB ⟨dn, aR, n, cR, R⟩ = (nameB dn && (inB n 1 12 && R.all ruleB) && firstB R)) := by unfold Hid defB; simp only [Bool.and_assoc]
  have HS := hide s2
  have HC := hide hc
  clear s1 s2 hc hr
  have b0 := below_al w (.cells #[.string dn, .slice aR n cR] 29)
  have HA := hide (boxk_new w #[.string dn, .slice aR n cR] 29)
  have hr0 := hrr.below b0
  go_enter Tryz.func7, Tryz.ntmps7
  go_wp2_with fail
  refine (implNameOk_any _ _ hkd).mono ?_
  rintro e u ⟨rfl, rfl⟩
  generalize w.alloc (.cells #[.string dn, .slice aR n cR] 29) = w1 at b0 HA hr0 ⊢
  have a0 := boxk_cell HA.out 0 _ rfl
  have a1 := boxk_cell HA.out 1 _ rfl
  cases h1 : nameB dn
  · have HV : Hid (defB ⟨dn, aR, n, cR, R⟩ = false) := by unfold Hid; rw [HD.out, h1]; rfl
    go_wp2
    go_ret
    exact ⟨ret_bool (by rw [HV.out]), b0⟩
  · rw [h1, Bool.true_and] at HD
    clear h1
    go_wp2_with fail
    refine (listR_any aR n cR R _ hz hr0 HS.out HC.out hn).mono ?_
    rintro e w2 ⟨rfl, hb2⟩
    have B2 := b0.trans (hb2.mono b0.size)
    have HA2 := hide (box_step HA.out hb2)
    have hr2 := hr0.below hb2
    clear hb2 b0 HA hr0 a0 a1
    have a0 := boxk_cell HA2.out 0 _ rfl
    have a1 := boxk_cell HA2.out 1 _ rfl
    cases h2 : (inB n 1 12 && R.all ruleB)
    · have HV : Hid (defB ⟨dn, aR, n, cR, R⟩ = false) := by unfold Hid; rw [HD.out, h2]; rfl
      clear h2
      go_wp2
      go_ret
      exact ⟨ret_bool (by rw [HV.out]), B2⟩
    · rw [h2, Bool.true_and] at HD
      clear h2
      go_wp2_with fail
      refine (eachFirst_any dn aR n cR R _ hz hr2 hn).mono ?_
      rintro e w3 ⟨rfl, hb3⟩
      have B3 := B2.trans (hb3.mono B2.size)
      clear hb3 B2 HA2 hr2 a0 a1
      rw [← HD.out]
      go_wp2
      go_ret
      exact ⟨rfl, B3⟩
end Go.Proofs.YtcfhpcbkdpgboaaGreat
