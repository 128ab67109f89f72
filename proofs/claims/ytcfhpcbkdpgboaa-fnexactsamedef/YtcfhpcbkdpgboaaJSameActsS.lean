/-
  Whether two rows of acts are the same: the model's answer.
-/
import Derived.Test.YtcfhpcbkdpgboaaJSameCell
import Derived.Deep.RegionHeld3
namespace Go.Proofs.Ytcfhpcbkdpgboaa
open Go.RowKit
set_option linter.unusedVariables false

set_option maxRecDepth 100000 in
set_option maxHeartbeats 3200000 in
theorem l10SameActs_any (a b : Option Addr) (n m ca cb : Nat) (J K : List QE) (w : World) (hz : J.length = n) (hy : K.length = m) (hr : RdActS w a J) (hq : RdActS w b K) (hs : ∀ x ∈ J, x.small) (hs' : ∀ x ∈ K, x.small) (hn : n ≤ 1048580) (hm : m ≤ 1048580) :
    Calls Try.prog 42 #[.slice a n ca, .slice b m cb] w fun e w' => (∃ t : Bool, e = .returned (.bool t) ∧ (t = true ↔ J.map QE.pl = K.map QE.pl)) ∧ Below w.heap.size w w' := by
  by_cases hnm : n = m
  rotate_left
  · have q1 : ((n : Int) != (m : Int)) = true := by simpa using (fun h : (n : Int) = (m : Int) => hnm (by omega))
    have HV : Hid (J.map QE.pl ≠ K.map QE.pl) := fun e => hnm (by rw [← hz, ← hy, map_len e])
    go_enter Try.func42, Try.ntmps42
    go_wp2
    go_ret
    exact ⟨⟨false, rfl, fun h => Bool.noConfusion h, fun e => absurd e HV.out⟩, Below.refl _ _⟩
  subst hnm
  have q1 : ((n : Int) != (n : Int)) = false := by simp
  have HZ := hide hz
  have HY := hide hy
  have HS := hide hs
  have HS' := hide hs'
  clear hz hy hs hs'
  go_enter Try.func42, Try.ntmps42
  go_wp2
  go_loopw [5] (fun i wr => ∃ (k : Nat), k ≤ n ∧ i = .int .i64 k ∧ (∀ j, j < k → (eAt J j).pl = (eAt K j).pl) ∧ Below w.heap.size w wr) (fun i _ => n - (intOf i).toNat)
  case atStart => exact ⟨0, Nat.zero_le _, rfl, fun j hj => absurd hj (Nat.not_lt_zero _), Below.refl _ _⟩
  case round =>
    obtain ⟨k, hk, rfl, hall, hbel⟩ := hrel
    have HA := hide hall
    clear hall
    by_cases hlt : k < n
    rotate_left
    · have HV : Hid (J.map QE.pl = K.map QE.pl) := map_ext (by rw [HZ.out, HY.out]) (fun i hi => HA.out i (by rw [HZ.out] at hi; omega))
      go_wp2
      go_ret
      exact ⟨⟨true, rfl, fun _ => HV.out, fun _ => rfl⟩, hbel⟩
    have hlJ : k < J.length := by rw [HZ.out]; exact hlt
    have hlK : k < K.length := by rw [HY.out]; exact hlt
    have hS1 := HS.out _ (eAt_mem hlJ)
    have hS2 := HS'.out _ (eAt_mem hlK)
    have HNk : Hid ((eAt J k).pl = (eAt K k).pl → ∀ j, j < k + 1 → (eAt J j).pl = (eAt K j).pl) := fun h j hj => by
      by_cases e : j = k
      · rw [e]; exact h
      · exact HA.out j (by omega)
    have HNo : Hid ((eAt J k).pl ≠ (eAt K k).pl → J.map QE.pl ≠ K.map QE.pl) := fun h e => h (map_at e hlJ)
    obtain ⟨b1, o1, e1, hbw1, hc1⟩ := hr.cells (by omega)
    obtain ⟨b2, o2, e2, hbw2, hc2⟩ := hq.cells (by omega)
    have HC1 := hide (hc1 k hlJ)
    have HC2 := hide (hc2 k hlK)
    clear hc1 hc2
    subst e1 e2
    generalize eAt J k = x at HC1 hS1 HNk HNo
    generalize eAt K k = y at HC2 hS2 HNk HNo

    obtain ⟨c0, c1, c2, c3, c4, hi1⟩ := HC1.out
    obtain ⟨d0, d1, d2, d3, d4, hi2⟩ := HC2.out
    rw [← hbel.cell (p := ⟨b1, o1 + k * 5, none⟩) hbw1] at c0
    rw [← hbel.cell (p := ⟨b1, o1 + k * 5 + 1, none⟩) hbw1] at c1
    rw [← hbel.cell (p := ⟨b1, o1 + k * 5 + 2, none⟩) hbw1] at c2
    rw [← hbel.cell (p := ⟨b1, o1 + k * 5 + 3, none⟩) hbw1] at c3
    rw [← hbel.cell (p := ⟨b1, o1 + k * 5 + 4, none⟩) hbw1] at c4
    rw [← hbel.cell (p := ⟨b2, o2 + k * 5, none⟩) hbw2] at d0
    rw [← hbel.cell (p := ⟨b2, o2 + k * 5 + 1, none⟩) hbw2] at d1
    rw [← hbel.cell (p := ⟨b2, o2 + k * 5 + 2, none⟩) hbw2] at d2
    rw [← hbel.cell (p := ⟨b2, o2 + k * 5 + 3, none⟩) hbw2] at d3
    rw [← hbel.cell (p := ⟨b2, o2 + k * 5 + 4, none⟩) hbw2] at d4
    obtain ⟨hX, hY, b0⟩ := boxes2 wr #[.int .i64 x.K, .string x.nm, .slice x.a x.L.length x.cap, .int .i64 x.N, .string x.un] #[.int .i64 y.K, .string y.nm, .slice y.a y.L.length y.cap, .int .i64 y.N, .string y.un] 88 88
    have hza : wr.heap.size + 1 < ((wr.alloc (.cells #[.int .i64 x.K, .string x.nm, .slice x.a x.L.length x.cap, .int .i64 x.N, .string x.un] 88)).alloc (.cells #[.int .i64 y.K, .string y.nm, .slice y.a y.L.length y.cap, .int .i64 y.N, .string y.un] 88)).heap.size := by simp
    have HBd := hide (hbel.trans (b0.mono hbel.size))
    have hb2 := below_al wr (.cells #[.int .i64 x.K, .string x.nm, .slice x.a x.L.length x.cap, .int .i64 x.N, .string x.un] 88)
    have d' : (wr.alloc (.cells #[.int .i64 x.K, .string x.nm, .slice x.a x.L.length x.cap, .int .i64 x.N, .string x.un] 88)).cell? ⟨b2, o2 + k * 5, none⟩ = some (.int .i64 y.K) ∧ (wr.alloc (.cells #[.int .i64 x.K, .string x.nm, .slice x.a x.L.length x.cap, .int .i64 x.N, .string x.un] 88)).cell? ⟨b2, o2 + k * 5 + 1, none⟩ = some (.string y.nm) ∧ (wr.alloc (.cells #[.int .i64 x.K, .string x.nm, .slice x.a x.L.length x.cap, .int .i64 x.N, .string x.un] 88)).cell? ⟨b2, o2 + k * 5 + 2, none⟩ = some (.slice y.a y.L.length y.cap) ∧ (wr.alloc (.cells #[.int .i64 x.K, .string x.nm, .slice x.a x.L.length x.cap, .int .i64 x.N, .string x.un] 88)).cell? ⟨b2, o2 + k * 5 + 3, none⟩ = some (.int .i64 y.N) ∧ (wr.alloc (.cells #[.int .i64 x.K, .string x.nm, .slice x.a x.L.length x.cap, .int .i64 x.N, .string x.un] 88)).cell? ⟨b2, o2 + k * 5 + 4, none⟩ = some (.string y.un) := ⟨cellS hb2 d0, cellS hb2 d1, cellS hb2 d2, cellS hb2 d3, cellS hb2 d4⟩
    obtain ⟨g0, g1, g2, g3, g4⟩ := d'
    clear hbel hi1 hi2 hb2 b0
    have HX := hide hX
    have HY2 := hide hY
    clear hX hY
    by_cases h0 : x.K = y.K
    rotate_left
    · have k0 : (x.K != y.K) = true := by simpa using h0
      have H0 := hide h0
      clear h0
      go_wp2
      go_ret
      exact ⟨⟨false, rfl, fun h => Bool.noConfusion h, fun e => absurd e (HNo.out (fun e => by obtain ⟨e0, e1, e2, e3, e4⟩ := QE.pl_inj e; exact H0.out e0))⟩, HBd.out⟩
    have k0 : (x.K != y.K) = false := by rw [h0]; simp
    have H0 := hide h0
    clear h0
    by_cases h1 : x.nm = y.nm
    rotate_left
    · have k1 : (x.nm.toList == y.nm.toList) = false := neS h1
      have H1 := hide h1
      clear h1
      go_wp2
      go_ret
      exact ⟨⟨false, rfl, fun h => Bool.noConfusion h, fun e => absurd e (HNo.out (fun e => by obtain ⟨e0, e1, e2, e3, e4⟩ := QE.pl_inj e; exact H1.out e1))⟩, HBd.out⟩
    have k1 : (x.nm.toList == y.nm.toList) = true := by rw [h1]; simp
    have H1 := hide h1
    clear h1
    by_cases h3 : x.N = y.N
    rotate_left
    · have k3 : (x.N != y.N) = true := by simpa using h3
      have H3 := hide h3
      clear h3
      go_wp2
      go_ret
      exact ⟨⟨false, rfl, fun h => Bool.noConfusion h, fun e => absurd e (HNo.out (fun e => by obtain ⟨e0, e1, e2, e3, e4⟩ := QE.pl_inj e; exact H3.out e3))⟩, HBd.out⟩
    have k3 : (x.N != y.N) = false := by rw [h3]; simp
    have H3 := hide h3
    clear h3
    by_cases h4 : x.un = y.un
    rotate_left
    · have k4 : (x.un.toList == y.un.toList) = false := neS h4
      have H4 := hide h4
      clear h4
      go_wp2
      go_ret
      exact ⟨⟨false, rfl, fun h => Bool.noConfusion h, fun e => absurd e (HNo.out (fun e => by obtain ⟨e0, e1, e2, e3, e4⟩ := QE.pl_inj e; exact H4.out e4))⟩, HBd.out⟩
    have k4 : (x.un.toList == y.un.toList) = true := by rw [h4]; simp
    have H4 := hide h4
    clear h4
    by_cases h1' : x.L.length = y.L.length
    rotate_left
    · have kk : ((x.L.length : Int) != (y.L.length : Int)) = true := by simpa using (fun h : (x.L.length : Int) = (y.L.length : Int) => h1' (by omega))
      have HLn := hide h1'
      clear h1'
      go_wp2
      go_ret
      exact ⟨⟨false, rfl, fun h => Bool.noConfusion h, fun e => absurd e (HNo.out (fun e => by obtain ⟨e0, e1, e2, e3, e4⟩ := QE.pl_inj e; exact HLn.out (by rw [e2])))⟩, HBd.out⟩
    have kk : ((x.L.length : Int) != (y.L.length : Int)) = false := by rw [h1']; simp
    have Hnm := H1
    clear H1
    have H1 := hide h1'
    clear h1'
    go_wp2
    clear c0 d0 c1 d1 c2 d2 c3 d3 c4 d4 g0 g1 g2 g3 g4 k0 k1 k3 k4 kk
    generalize (wr.alloc (.cells #[.int .i64 x.K, .string x.nm, .slice x.a x.L.length x.cap, .int .i64 x.N, .string x.un] 88)).alloc (.cells #[.int .i64 y.K, .string y.nm, .slice y.a y.L.length y.cap, .int .i64 y.N, .string y.un] 88) = wb at HBd HX HY2 hza ⊢
    have HI1 := hide HC1.out.2.2.2.2.2
    have HI2 := hide HC2.out.2.2.2.2.2
    have hxl : x.L.length ≤ 1048576 := hS1.2.2.1
    go_loopw [8] (fun i wi => ∃ (j : Nat), j ≤ x.L.length ∧ i = .int .i64 j ∧ (∀ t, t < j → eAt x.L t = eAt y.L t) ∧ Below wb.heap.size wb wi) (fun i _ => x.L.length - (intOf i).toNat)
    case atStart => exact ⟨0, Nat.zero_le _, rfl, fun j hj => absurd hj (Nat.not_lt_zero _), Below.refl _ _⟩
    case round =>
      obtain ⟨j, hj, rfl, hall, hbi⟩ := hrel
      have HAj := hide hall
      clear hall
      have HBi := hide (HBd.out.trans (hbi.mono HBd.out.size))
      have p1 := boxk_cell (box_below HX.out hbi (by omega)) 2 _ rfl
      have r1 := boxk_cell (box_below HY2.out hbi hza) 2 _ rfl
      by_cases hlj : j < x.L.length
      rotate_left
      · have hLL : x.L = y.L := eq_ext H1.out (fun i hi => HAj.out i (by omega))
        have HV := hide (HNk.out (by unfold QE.pl; rw [H0.out, Hnm.out, hLL, H3.out, H4.out]))
        clear hLL
        go_wp2
        go_roundw
        case rel => exact ⟨k + 1, by omega, by go_num, HV.out, HBi.out⟩
        case measure => simp [intOf]; omega
      have hl1 := hlj
      have hl2 : j < y.L.length := by rw [← H1.out]; exact hlj
      obtain ⟨bx, ox, ex, hbx, hcx⟩ := RdExpr.cells (HI1.out.below HBi.out) (by omega)
      obtain ⟨by', oy, ey, hby, hcy⟩ := RdExpr.cells (HI2.out.below HBi.out) (by omega)
      obtain ⟨e0, e1, e2, e3, e4, e5, e6, e7, e8, e9, e10⟩ := hcx j hl1
      obtain ⟨f0, f1, f2, f3, f4, f5, f6, f7, f8, f9, f10⟩ := hcy j hl2
      clear hcx hcy
      rw [ex] at p1
      rw [ey] at r1
      clear ex ey
      have HNo1 : Hid (eAt x.L j ≠ eAt y.L j → x.L ≠ y.L) := fun h e => h (by rw [e])
      have HNj : Hid (eAt x.L j = eAt y.L j → ∀ t, t < j + 1 → eAt x.L t = eAt y.L t) := fun h t ht => by
        by_cases e : t = j
        · rw [e]; exact h
        · exact HAj.out t (by omega)
      have hlji : (j : Int) < (x.L.length : Int) := by omega
      generalize eAt x.L j = u at e0 e1 e2 e3 e4 e5 e6 e7 e8 e9 e10 HNo1 HNj
      generalize eAt y.L j = v at f0 f1 f2 f3 f4 f5 f6 f7 f8 f9 f10 HNo1 HNj
      have hrun : ∀ W : World, (Op.equalIn 10000 104 (.agg #[.string u.Op, .int .i64 u.L.K, .string u.L.S, .int .i64 u.L.V.K, .int .i64 u.L.V.N, .string u.L.V.S, .int .i64 u.R.K, .string u.R.S, .int .i64 u.R.V.K, .int .i64 u.R.V.N, .string u.R.V.S]) (.agg #[.string v.Op, .int .i64 v.L.K, .string v.L.S, .int .i64 v.L.V.K, .int .i64 v.L.V.N, .string v.L.V.S, .int .i64 v.R.K, .string v.R.S, .int .i64 v.R.V.K, .int .i64 v.R.V.N, .string v.R.V.S])).run Try.prog W = .ok (eqXb u v) W := fun W => eqX_run u v W 9993
      have HIff := hide (eqXb_iff u v)
      generalize eqXb u v = t at hrun HIff
      have HBd2 := hide HBi.out.drew
      have HBb := hide hbi.drew
      clear hbi HBi
      cases t
      · have HV := hide (HNo1.out (fun e => Bool.noConfusion (HIff.out.2 e)))
        clear HNj HNo1 HIff
        go_wp2
        go_region_with (fail)
        all_goals
          go_wp2
          go_ret
          exact ⟨⟨false, rfl, fun h => Bool.noConfusion h, fun e => absurd e (HNo.out (fun e => by obtain ⟨e0, e1, e2, e3, e4⟩ := QE.pl_inj e; exact HV.out e2))⟩, HBd2.out⟩
      · have HV := hide (HNj.out (HIff.out.1 rfl))
        clear HNj HNo1 HIff
        go_wp2
        go_region_with (fail)
        all_goals
          go_wp2
          go_roundw
          case rel => exact ⟨j + 1, by omega, by go_num, HV.out, HBb.out⟩
          case measure => simp [intOf]; omega

end Go.Proofs.Ytcfhpcbkdpgboaa
