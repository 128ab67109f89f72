/-
  Proved: for every list of bytes, the law on what is computed answers true (drawn terms are computed just if each can be; what comes is right, where what is bound is), and all that was there reads as it did. No condition.
-/
import Derived.Test.YtbellpalomiokabJoined2
import Derived.Test.YtbellpalomiokabJCompS
import Derived.Test.YtbellpalomiokabJDrawXc
import Derived.Test.YtbellpalomiokabRows
import Derived.ProofKit
import Derived.OpenShut
import Derived.ShutString
import Derived.ChangeOld
import Derived.Below
import Derived.Deep.RegionHeld3
import Derived.BigQuiet
namespace Go.Proofs.Ytbellpalomiokab.LawComputed
open Go.ChangeShapes Go.WideShapes Go.ChangeAt Go.RowKit Go.Joins
open Go.ChangeMaps (open_string shut_string)
set_option linter.unusedVariables false
set_option maxRecDepth 100000

theorem big_any (a : Option Addr) (len cap : Nat) (w : World) (h : len ≤ 9223372036854775807) :
    Calls Try.prog 14 #[.slice a len cap] w fun e w' => e = .returned (.bool (decide ((1048576 : Int) < (len : Int)))) ∧ w' = w := by
  go_enter Try.func14, Try.ntmps14
  go_wp2
  go_ret
  exact ⟨rfl, rfl⟩
theorem cells11 {W : World} {q : Nat} {x : X11} (h : W.heap[q]? = some (.cells #[.string x.Op, .int .i64 x.L.K, .string x.L.S, .int .i64 x.L.V.K, .int .i64 x.L.V.N, .string x.L.V.S, .int .i64 x.R.K, .string x.R.S, .int .i64 x.R.V.K, .int .i64 x.R.V.N, .string x.R.V.S] 57 (0, 0))) :
    W.cell? ⟨q, 0, none⟩ = some (.string x.Op) ∧ W.cell? ⟨q, 1, none⟩ = some (.int .i64 x.L.K) ∧ W.cell? ⟨q, 2, none⟩ = some (.string x.L.S) ∧ W.cell? ⟨q, 3, none⟩ = some (.int .i64 x.L.V.K) ∧ W.cell? ⟨q, 4, none⟩ = some (.int .i64 x.L.V.N) ∧ W.cell? ⟨q, 5, none⟩ = some (.string x.L.V.S) ∧ W.cell? ⟨q, 6, none⟩ = some (.int .i64 x.R.K) ∧ W.cell? ⟨q, 7, none⟩ = some (.string x.R.S) ∧ W.cell? ⟨q, 8, none⟩ = some (.int .i64 x.R.V.K) ∧ W.cell? ⟨q, 9, none⟩ = some (.int .i64 x.R.V.N) ∧ W.cell? ⟨q, 10, none⟩ = some (.string x.R.V.S) :=
  ⟨boxk_cell h 0 _ rfl, boxk_cell h 1 _ rfl, boxk_cell h 2 _ rfl, boxk_cell h 3 _ rfl, boxk_cell h 4 _ rfl, boxk_cell h 5 _ rfl, boxk_cell h 6 _ rfl, boxk_cell h 7 _ rfl, boxk_cell h 8 _ rfl, boxk_cell h 9 _ rfl, boxk_cell h 10 _ rfl⟩
theorem below_dN {w0 w : World} {B : Nat} (h : Below B w0 w) (k : Nat) : Below B w0 (w.drewN k) := ⟨h.os, h.tape.trans rfl, h.output, h.size, fun i hi => h.block i hi⟩
theorem rdRow' {w : World} {base n n' c : Nat} {a : Option Addr} {L : List V3} (h : w.ownsRow base 45 3 (.slice a n c) n' (cells3 L)) : RdV w a L := by
  obtain ⟨a', c', e, hr, -⟩ := rdV_owns h
  simp only [Value.slice.injEq] at e
  rw [e.1]; exact hr

set_option maxRecDepth 100000 in
set_option maxHeartbeats 12800000 in
theorem law (a : Option Addr) (cap : Nat) (code : List UInt8) (w : World) (hr : Rd w a code) (hm : code.length ≤ maxLen) :
    Calls Try.prog 5 #[.slice a code.length cap] w fun e w' => e = .returned (.bool true) ∧ Below w.heap.size w w' := by
  unfold maxLen at hm
  by_cases hb : 1048576 < code.length
  · have hd : decide ((1048576 : Int) < (code.length : Int)) = true := by simp; omega
    go_enter Try.func5, Try.ntmps5
    go_wp2_with (go_at_call 14; refine (big_any _ _ _ _ (by omega)).mono ?_; rintro e w' ⟨rfl, rfl⟩)
    go_ret
    exact ⟨rfl, Below.refl _ _⟩
  · have hd : decide ((1048576 : Int) < (code.length : Int)) = false := by simp; omega
    go_enter Try.func5, Try.ntmps5
    go_wp2_with fail
    refine (big_any _ _ _ _ (by omega)).mono ?_
    rintro e w' ⟨rfl, rfl⟩
    go_wp2_with fail
    refine (drawComputeAll_any a cap code w' hr (by omega)).mono ?_
    rintro e w1 ⟨g, c, L, g2, c2, M, rfl, hL3, hsm, hM5, hsM, rL, rM, B1⟩
    have HSm := hide (fun y hy => (hsm y hy).1)
    have HSM := hide (fun y hy => (hsM y hy).1)
    have HOk := hide (fun k (hk : k < L.length) v (hv : compO (eAt L k) M = some v) => compO_ok (x := eAt L k) (B := M) (v := v) (by rw [eAt_in hk]; exact (hsm _ (List.getElem_mem _)).2) (fun y hy => (hsM y hy).2) hv)
    have HTx := hide (fun k (hk : k < L.length) v (hv : compO (eAt L k) M = some v) => compO_small (x := eAt L k) (B := M) (v := v) (by rw [eAt_in hk]; exact (hsm _ (List.getElem_mem _)).1) (fun y hy => (hsM y hy).1) hv)
    have HI := hide (fun (x : X11) (W : World) (h1 : x.small) (h3 : RdBind W (some ⟨g2, 0, none⟩) M) => implCompute_any x _ c2 M W h1 h3 HSM.out (by omega))
    obtain ⟨n, hN⟩ : ∃ n, n = L.length := ⟨_, rfl⟩
    have HCA := hide (fun (W : World) (h1 : RdExpr W (some ⟨g, 0, none⟩) L) (h2 : RdBind W (some ⟨g2, 0, none⟩) M) => implComputeAll_any _ c L _ c2 M W h1 HSm.out h2 HSM.out (by omega) (by omega))
    obtain ⟨R, bb, hR⟩ : ∃ R bb, allR L M = (R, bb) := ⟨_, _, rfl⟩
    have HO := hide (allR_open hR)
    rw [hR] at HCA
    rw [← hN] at hL3 HCA ⊢
    have HN := hide hN
    clear hsm hsM hN hd hR
    go_wp2_with fail
    refine (HCA.out w1 rL rM).mono ?_
    rintro e w2 ⟨v, rfl, hown, hb2⟩
    simp only at hown ⊢
    obtain ⟨av, cv, rfl, hrv, -, -, -⟩ := rdV_owns hown
    have rL2 := rL.below hb2
    have rM2 := rM.below hb2
    have B2 : Below w'.heap.size w' w2 := B1.trans (hb2.mono B1.size)
    have HF := hide (HO.out.1)
    have HYes := hide (HO.out.2.1)
    have HNo := hide (HO.out.2.2)
    clear HCA rL rM B1 hown hb2 HO
    go_wp2
    go_loopw [7, 8] (fun al i wr => ∃ (k : Nat), k ≤ n ∧ i = .int .i64 k ∧ al = .bool (hasK M L k) ∧ Below w2.heap.size w2 wr) (fun _ i _ => n - (intOf i).toNat)
    case atStart => exact ⟨0, Nat.zero_le _, rfl, by rw [hasK_0], Below.refl _ _⟩
    case round =>
      obtain ⟨k, hk, rfl, rfl, hbel⟩ := hrel
      by_cases hlt : k < n
      · have hkL : k < L.length := by rw [← HN.out]; exact hlt
        obtain ⟨b, off, hab, hbw, hc⟩ := RdExpr.cells rL2 (by omega)
        obtain ⟨d0, d1, d2, d3, d4, d5, d6, d7, d8, d9, d10⟩ := hc k hkL
        have HSt := hide (hasK_step (B := M) (es := L) hkL)
        have HSk := hide (show (eAt L k).small by rw [eAt_in hkL]; exact HSm.out _ (List.getElem_mem _))
        have HOkk := hide (HOk.out k hkL)
        have HTxk := hide (HTx.out k hkL)
        have HVk := hide (fun h => (HYes.out h).2 k hkL)
        have HLt : Hid (k + 1 ≤ n) := hlt
        have hl1 : (k : Int) < (n : Int) := by omega
        have hl2 : (0 : Int) ≤ (k : Int) := by omega
        have hRk : bb = true → k < R.length := fun h => by rw [(HYes.out h).1]; exact hkL
        clear hc
        obtain ⟨rfl, rfl⟩ : g = b ∧ 0 = off := by simpa using hab
        clear hab
        rw [← hbel.cell (p := ⟨g, 0 + k * 11, none⟩) hbw] at d0
        rw [← hbel.cell (p := ⟨g, 0 + k * 11 + 1, none⟩) hbw] at d1
        rw [← hbel.cell (p := ⟨g, 0 + k * 11 + 2, none⟩) hbw] at d2
        rw [← hbel.cell (p := ⟨g, 0 + k * 11 + 3, none⟩) hbw] at d3
        rw [← hbel.cell (p := ⟨g, 0 + k * 11 + 4, none⟩) hbw] at d4
        rw [← hbel.cell (p := ⟨g, 0 + k * 11 + 5, none⟩) hbw] at d5
        rw [← hbel.cell (p := ⟨g, 0 + k * 11 + 6, none⟩) hbw] at d6
        rw [← hbel.cell (p := ⟨g, 0 + k * 11 + 7, none⟩) hbw] at d7
        rw [← hbel.cell (p := ⟨g, 0 + k * 11 + 8, none⟩) hbw] at d8
        rw [← hbel.cell (p := ⟨g, 0 + k * 11 + 9, none⟩) hbw] at d9
        rw [← hbel.cell (p := ⟨g, 0 + k * 11 + 10, none⟩) hbw] at d10
        simp only [Nat.zero_add] at d0 d1 d2 d3 d4 d5 d6 d7 d8 d9 d10
        have r4 := rM2.below hbel
        go_wp2_with fail
        refine (HI.out (eAt L k) _ HSk.out r4).mono ?_
        rintro e w3 ⟨rfl, hb3⟩
        have hB3 : Below w2.heap.size w2 w3 := hbel.trans (hb3.mono hbel.size)
        have hrv3 := hrv.below hB3
        clear hb3 hbel r4 d0 d1 d2 d3 d4 d5 d6 d7 d8 d9 d10
        rw [bindA_oz]
        have HQ := hide (show (compO (eAt L k) M = none ∧ (compO (eAt L k) M).isSome = false) ∨ (compO (eAt L k) M = some (oz (compO (eAt L k) M)) ∧ (compO (eAt L k) M).isSome = true) by cases compO (eAt L k) M <;> simp [oz])
        obtain ⟨q, hq⟩ : ∃ q, q = compO (eAt L k) M := ⟨_, rfl⟩
        rw [← hq] at HQ HOkk HTxk HVk HSt ⊢
        clear hq
        obtain ⟨u, hu⟩ : ∃ u, u = oz q := ⟨_, rfl⟩
        rw [← hu] at HQ ⊢
        obtain ⟨is, his⟩ : ∃ is, is = q.isSome := ⟨_, rfl⟩
        rw [← his] at HQ HSt ⊢
        clear hu his
        have B4 := hB3.alloc hB3.size (.cells #[.int .i64 u.K, .int .i64 u.N, .string u.S] 45)
        have HB4 := hide B4
        have HX := hide (box_new w3 (.int .i64 u.K) (.int .i64 u.N) (.string u.S) 45)
        have hrv4 := hrv3.below (below_al w3 (.cells #[.int .i64 u.K, .int .i64 u.N, .string u.S] 45))
        obtain ⟨al, hal⟩ : ∃ al, al = hasK M L k := ⟨_, rfl⟩
        rw [← hal] at HSt ⊢
        clear hal hB3 hrv3 B4
        cases bb with
        | false =>
          have HSf : Hid (hasK M L (k + 1) = (al && is)) := HSt.out
          cases al
          all_goals
            go_wp2
            go_quiet (fail)
            go_wp2
            go_roundw
            case rel => exact ⟨k + 1, HLt.out, by go_num, by rw [HSf.out]; rfl, below_dN HB4.out _⟩
            case measure => have := HLt.out; simp [intOf]; omega
        | true =>
          have hkR : k < R.length := hRk rfl
          have hq2 := HVk.out rfl
          have hqs : is = true ∧ u = vAt R k := by
            rcases HQ.out with ⟨h1, -⟩ | ⟨h1, h2⟩
            · rw [h1] at hq2; cases hq2
            · rw [h1] at hq2; exact ⟨h2, Option.some.inj hq2⟩
          obtain ⟨rfl, hue⟩ := hqs
          have hok : valB u.K u.N u.S = true := by rw [hue]; exact HOkk.out _ hq2
          have hus : u.S.size ≤ 1048576 := by rw [hue]; exact HTxk.out _ hq2
          obtain ⟨b', off', hab', hbw', hc'⟩ := hrv4.open (by omega)
          obtain ⟨e0, e1, e2⟩ := hc' k hkR
          rw [← hue] at e0 e1 e2
          have HSf : Hid (hasK M L (k + 1) = al) := by unfold Hid; rw [HSt.out, Bool.and_true]
          clear hq2 hue HQ HOkk HTxk HVk HSt hc' hrv4
          subst hab'
          have HVo := hide (fun W => implValOk_any u.K u.N u.S W (by unfold maxLen; omega))
          rw [hok] at HVo
          have hkR' : (k : Int) < (R.length : Int) := by omega
          have hgd : decide ((R.length : Int) ≤ (k : Int)) = false := by simpa using hkR'
          have k1 : (u.K == u.K) = true := by simp
          have k2 : (u.N == u.N) = true := by simp
          have k3 : (u.S.toList == u.S.toList) = true := by simp
          obtain ⟨x0, x1, x2, -, -, -⟩ := box_cell HX.out
          have BB := HB4.out
          clear hok hus HB4 HX hkR
          cases al
          · go_wp2_with fail
            generalize w3.alloc (.cells #[.int .i64 u.K, .int .i64 u.N, .string u.S] 45) = w4 at e0 e1 e2 x0 x1 x2 BB
            refine wp_region_held_drew (S := fun W => W.cell? ⟨b', off' + k * 3, none⟩ = some (.int .i64 u.K) ∧ W.cell? ⟨b', off' + k * 3 + 1, none⟩ = some (.int .i64 u.N) ∧ W.cell? ⟨b', off' + k * 3 + 2, none⟩ = some (.string u.S) ∧ W.cell? ⟨w3.heap.size, 0, none⟩ = some (.int .i64 u.K) ∧ W.cell? ⟨w3.heap.size, 1, none⟩ = some (.int .i64 u.N) ∧ W.cell? ⟨w3.heap.size, 2, none⟩ = some (.string u.S) ∧ Below w2.heap.size w2 W ∧ w2.heap.size ≤ W.heap.size) (by kernel_rfl) ⟨e0, e1, e2, x0, x1, x2, BB.drew, BB.size⟩ (fun hHeld => ?_)
            refine wpAnyH_take (i := 0) (oi := Oper.mk (some 49) _ _ _ _ _) (v := ?v1) rfl (by kernel_rfl) (by kernel_rfl) (by kernel_rfl) (fun _ _ _ h => h) (Or.inl ⟨by rfl, ?y1⟩) hHeld ?r1
            case y1 => (intro W hSW; obtain ⟨q0, q1, q2, q3, q4, q5, -, -⟩ := hSW; go_simp; try with_reducible rfl)
            simp only [Act.put, List.setIfInBounds_toArray, List.set_cons_zero, List.set_cons_succ]
            refine wpAnyH_take (i := 1) (oi := Oper.mk (some 50) _ _ _ _ _) (v := ?v2) rfl (by kernel_rfl) (by kernel_rfl) (by kernel_rfl) (fun _ _ _ h => h) (Or.inl ⟨by rfl, ?y2⟩) hHeld ?r2
            case y2 => (intro W hSW; obtain ⟨q0, q1, q2, q3, q4, q5, -, -⟩ := hSW; go_simp; try with_reducible rfl)
            simp only [Act.put, List.setIfInBounds_toArray, List.set_cons_zero, List.set_cons_succ]
            refine wpAnyH_take (i := 2) (oi := Oper.mk (some 51) _ _ _ _ _) (v := ?v3) rfl (by kernel_rfl) (by kernel_rfl) (by kernel_rfl) (fun _ _ _ h => h) (Or.inl ⟨by rfl, ?y3⟩) hHeld ?r3
            case y3 => (intro W hSW; obtain ⟨q0, q1, q2, q3, q4, q5, -, -⟩ := hSW; go_simp; try with_reducible rfl)
            simp only [Act.put, List.setIfInBounds_toArray, List.set_cons_zero, List.set_cons_succ]
            refine wpAnyH_take (i := 3) (oi := Oper.mk (some 52) _ _ _ _ _) (v := ?v4) rfl (by kernel_rfl) (by kernel_rfl) (by kernel_rfl) (fun _ _ _ h => h) (Or.inl ⟨by rfl, ?y4⟩) hHeld ?r4
            case y4 => (intro W hSW; obtain ⟨q0, q1, q2, q3, q4, q5, -, -⟩ := hSW; go_simp; try with_reducible rfl)
            simp only [Act.put, List.setIfInBounds_toArray, List.set_cons_zero, List.set_cons_succ]
            refine wpAnyH_take (i := 4) (oi := Oper.mk (some 53) _ _ _ _ _) (v := ?v5) rfl (by kernel_rfl) (by kernel_rfl) (by kernel_rfl) (fun _ _ _ h => h) (Or.inl ⟨by rfl, ?y5⟩) hHeld ?r5
            case y5 => (intro W hSW; obtain ⟨q0, q1, q2, q3, q4, q5, -, -⟩ := hSW; go_simp; try with_reducible rfl)
            simp only [Act.put, List.setIfInBounds_toArray, List.set_cons_zero, List.set_cons_succ]
            refine wpAnyH_take (i := 5) (oi := Oper.mk (some 54) _ _ _ _ _) (v := .bool false) rfl (by kernel_rfl) (by kernel_rfl) (by kernel_rfl) (fun _ _ _ h => h) (Or.inl ⟨by rfl, ?y6⟩) hHeld ?r6
            case y6 => (intro W hSW; obtain ⟨q0, q1, q2, q3, q4, q5, -, -⟩ := hSW; go_simp; try with_reducible rfl)
            simp only [Act.put, List.setIfInBounds_toArray, List.set_cons_zero, List.set_cons_succ]
            refine wpAnyH_take (i := 6) (oi := Oper.mk (some 55) _ _ _ _ _) (v := ?v7) rfl (by kernel_rfl) (by kernel_rfl) (by kernel_rfl) (fun _ _ _ h => h) (Or.inl ⟨by rfl, ?y7⟩) hHeld ?r7
            case y7 => (intro W hSW; obtain ⟨q0, q1, q2, q3, q4, q5, -, -⟩ := hSW; go_simp; try with_reducible rfl)
            simp only [Act.put, List.setIfInBounds_toArray, List.set_cons_zero, List.set_cons_succ]
            refine wpAnyH_take (i := 7) (oi := Oper.mk (some 56) _ _ _ _ _) (v := ?v8) rfl (by kernel_rfl) (by kernel_rfl) (by kernel_rfl) (fun _ _ _ h => h) (Or.inl ⟨by rfl, ?y8⟩) hHeld ?r8
            case y8 => (intro W hSW; obtain ⟨q0, q1, q2, q3, q4, q5, -, -⟩ := hSW; go_simp; try with_reducible rfl)
            simp only [Act.put, List.setIfInBounds_toArray, List.set_cons_zero, List.set_cons_succ]
            refine wpAnyH_take (i := 8) (oi := Oper.mk (some 57) _ _ _ _ _) (v := ?v9) rfl (by kernel_rfl) (by kernel_rfl) (by kernel_rfl) (fun _ _ _ h => h) (Or.inl ⟨by rfl, ?y9⟩) hHeld ?r9
            case y9 => (intro W hSW; obtain ⟨q0, q1, q2, q3, q4, q5, -, -⟩ := hSW; go_simp; try with_reducible rfl)
            simp only [Act.put, List.setIfInBounds_toArray, List.set_cons_zero, List.set_cons_succ]
            refine wpAnyH_take (i := 9) (oi := Oper.mk (some 58) _ _ _ _ _) (v := ?v10) rfl (by kernel_rfl) (by kernel_rfl) (by kernel_rfl) (fun _ _ _ h => h) (Or.inl ⟨by rfl, ?y10⟩) hHeld ?r10
            case y10 => (intro W hSW; obtain ⟨q0, q1, q2, q3, q4, q5, -, -⟩ := hSW; go_simp; try with_reducible rfl)
            simp only [Act.put, List.setIfInBounds_toArray, List.set_cons_zero, List.set_cons_succ]
            refine wpAnyH_take (i := 10) (oi := Oper.mk (some 59) _ _ _ _ _) (v := ?v11) rfl (by kernel_rfl) (by kernel_rfl) (by kernel_rfl) (fun _ _ _ h => h) (Or.inl ⟨by rfl, ?y11⟩) hHeld ?r11
            case y11 => (intro W hSW; obtain ⟨q0, q1, q2, q3, q4, q5, -, -⟩ := hSW; go_simp; try with_reducible rfl)
            simp only [Act.put, List.setIfInBounds_toArray, List.set_cons_zero, List.set_cons_succ]
            refine wpAnyH_take (i := 11) (oi := Oper.mk (some 60) _ _ _ _ _) (v := ?v12) rfl (by kernel_rfl) (by kernel_rfl) (by kernel_rfl) (fun _ _ _ h => h) (Or.inl ⟨by rfl, ?y12⟩) hHeld ?r12
            case y12 => (intro W hSW; obtain ⟨q0, q1, q2, q3, q4, q5, -, -⟩ := hSW; go_simp; try with_reducible rfl)
            simp only [Act.put, List.setIfInBounds_toArray, List.set_cons_zero, List.set_cons_succ]
            refine wpAnyH_take (i := 12) (oi := Oper.mk (some 61) _ _ _ _ _) (v := .bool false) rfl (by kernel_rfl) (by kernel_rfl) (by kernel_rfl) (fun _ _ _ h => h) (Or.inl ⟨by rfl, ?y13⟩) hHeld ?r13
            case y13 => (intro W hSW; obtain ⟨q0, q1, q2, q3, q4, q5, -, -⟩ := hSW; go_simp; try with_reducible rfl)
            simp only [Act.put, List.setIfInBounds_toArray, List.set_cons_zero, List.set_cons_succ]
            refine wpAnyH_take (i := 13) (oi := Oper.mk (some 62) _ _ _ _ _) (v := ?v14) rfl (by kernel_rfl) (by kernel_rfl) (by kernel_rfl) (fun _ _ _ h => h) (Or.inl ⟨by rfl, ?y14⟩) hHeld ?r14
            case y14 => (intro W hSW; obtain ⟨q0, q1, q2, q3, q4, q5, -, -⟩ := hSW; go_simp; try with_reducible rfl)
            simp only [Act.put, List.setIfInBounds_toArray, List.set_cons_zero, List.set_cons_succ]
            refine wpAnyH_take (i := 14) (oi := Oper.mk (some 63) _ _ _ _ _) (v := ?v15) rfl (by kernel_rfl) (by kernel_rfl) (by kernel_rfl) (fun _ _ _ h => h) (Or.inl ⟨by rfl, ?y15⟩) hHeld ?r15
            case y15 => (intro W hSW; obtain ⟨q0, q1, q2, q3, q4, q5, -, -⟩ := hSW; go_simp; try with_reducible rfl)
            simp only [Act.put, List.setIfInBounds_toArray, List.set_cons_zero, List.set_cons_succ]
            refine wpAnyH_take (i := 15) (oi := Oper.mk (some 64) _ _ _ _ _) (v := ?v16) rfl (by kernel_rfl) (by kernel_rfl) (by kernel_rfl) (fun _ _ _ h => h) (Or.inl ⟨by rfl, ?y16⟩) hHeld ?r16
            case y16 => (intro W hSW; obtain ⟨q0, q1, q2, q3, q4, q5, -, -⟩ := hSW; go_simp; try with_reducible rfl)
            simp only [Act.put, List.setIfInBounds_toArray, List.set_cons_zero, List.set_cons_succ]
            refine wpAnyH_ready (rs := [16]) (by kernel_rfl) (by simp) (AllReadyH.cons (o := Oper.mk (some 65) _ _ _ _ _) rfl (fun Kk hK => ?_) AllReadyH.nil)
            go_simp
            refine (HVo.out _).mono ?_
            rintro e u1 ⟨rfl, b1⟩
            refine hK.out _ _ (keep7 b1 hHeld) (fun hHeld => ?_)
            clear hK Kk
            refine wpAnyH_take (i := 17) (oi := Oper.mk (some 66) _ _ _ _ _) (v := ?v17) rfl (by kernel_rfl) (by kernel_rfl) (by kernel_rfl) (fun _ _ _ h => h) (Or.inl ⟨by rfl, ?y17⟩) hHeld ?r17
            case y17 => (intro W hSW; obtain ⟨q0, q1, q2, q3, q4, q5, -, -⟩ := hSW; go_simp; try with_reducible rfl)
            simp only [Act.put, List.setIfInBounds_toArray, List.set_cons_zero, List.set_cons_succ]
            refine wpAnyH_take (i := 18) (oi := Oper.mk (some 67) _ _ _ _ _) (v := ?v18) rfl (by kernel_rfl) (by kernel_rfl) (by kernel_rfl) (fun _ _ _ h => h) (Or.inl ⟨by rfl, ?y18⟩) hHeld ?r18
            case y18 => (intro W hSW; obtain ⟨q0, q1, q2, q3, q4, q5, -, -⟩ := hSW; go_simp; try with_reducible rfl)
            simp only [Act.put, List.setIfInBounds_toArray, List.set_cons_zero, List.set_cons_succ]
            refine wpAnyH_take (i := 19) (oi := Oper.mk (some 68) _ _ _ _ _) (v := ?v19) rfl (by kernel_rfl) (by kernel_rfl) (by kernel_rfl) (fun _ _ _ h => h) (Or.inl ⟨by rfl, ?y19⟩) hHeld ?r19
            case y19 => (intro W hSW; obtain ⟨q0, q1, q2, q3, q4, q5, -, -⟩ := hSW; go_simp; try with_reducible rfl)
            simp only [Act.put, List.setIfInBounds_toArray, List.set_cons_zero, List.set_cons_succ]
            refine wpAnyH_done (by kernel_rfl) ?_ _
            have BE := hHeld.2.2.2.2.2.2.1
            go_wp2
            go_roundw
            case rel => exact ⟨k + 1, HLt.out, by go_num, by rw [HSf.out], BE⟩
            case measure => have := HLt.out; simp [intOf]; omega
          · go_wp2_with fail
            generalize w3.alloc (.cells #[.int .i64 u.K, .int .i64 u.N, .string u.S] 45) = w4 at e0 e1 e2 x0 x1 x2 BB
            refine wp_region_held_drew (S := fun W => W.cell? ⟨b', off' + k * 3, none⟩ = some (.int .i64 u.K) ∧ W.cell? ⟨b', off' + k * 3 + 1, none⟩ = some (.int .i64 u.N) ∧ W.cell? ⟨b', off' + k * 3 + 2, none⟩ = some (.string u.S) ∧ W.cell? ⟨w3.heap.size, 0, none⟩ = some (.int .i64 u.K) ∧ W.cell? ⟨w3.heap.size, 1, none⟩ = some (.int .i64 u.N) ∧ W.cell? ⟨w3.heap.size, 2, none⟩ = some (.string u.S) ∧ Below w2.heap.size w2 W ∧ w2.heap.size ≤ W.heap.size) (by kernel_rfl) ⟨e0, e1, e2, x0, x1, x2, BB.drew, BB.size⟩ (fun hHeld => ?_)
            refine wpAnyH_take (i := 0) (oi := Oper.mk (some 49) _ _ _ _ _) (v := ?v20) rfl (by kernel_rfl) (by kernel_rfl) (by kernel_rfl) (fun _ _ _ h => h) (Or.inl ⟨by rfl, ?y20⟩) hHeld ?r20
            case y20 => (intro W hSW; obtain ⟨q0, q1, q2, q3, q4, q5, -, -⟩ := hSW; go_simp; try with_reducible rfl)
            simp only [Act.put, List.setIfInBounds_toArray, List.set_cons_zero, List.set_cons_succ]
            refine wpAnyH_take (i := 1) (oi := Oper.mk (some 50) _ _ _ _ _) (v := ?v21) rfl (by kernel_rfl) (by kernel_rfl) (by kernel_rfl) (fun _ _ _ h => h) (Or.inl ⟨by rfl, ?y21⟩) hHeld ?r21
            case y21 => (intro W hSW; obtain ⟨q0, q1, q2, q3, q4, q5, -, -⟩ := hSW; go_simp; try with_reducible rfl)
            simp only [Act.put, List.setIfInBounds_toArray, List.set_cons_zero, List.set_cons_succ]
            refine wpAnyH_take (i := 2) (oi := Oper.mk (some 51) _ _ _ _ _) (v := ?v22) rfl (by kernel_rfl) (by kernel_rfl) (by kernel_rfl) (fun _ _ _ h => h) (Or.inl ⟨by rfl, ?y22⟩) hHeld ?r22
            case y22 => (intro W hSW; obtain ⟨q0, q1, q2, q3, q4, q5, -, -⟩ := hSW; go_simp; try with_reducible rfl)
            simp only [Act.put, List.setIfInBounds_toArray, List.set_cons_zero, List.set_cons_succ]
            refine wpAnyH_take (i := 3) (oi := Oper.mk (some 52) _ _ _ _ _) (v := ?v23) rfl (by kernel_rfl) (by kernel_rfl) (by kernel_rfl) (fun _ _ _ h => h) (Or.inl ⟨by rfl, ?y23⟩) hHeld ?r23
            case y23 => (intro W hSW; obtain ⟨q0, q1, q2, q3, q4, q5, -, -⟩ := hSW; go_simp; try with_reducible rfl)
            simp only [Act.put, List.setIfInBounds_toArray, List.set_cons_zero, List.set_cons_succ]
            refine wpAnyH_take (i := 4) (oi := Oper.mk (some 53) _ _ _ _ _) (v := ?v24) rfl (by kernel_rfl) (by kernel_rfl) (by kernel_rfl) (fun _ _ _ h => h) (Or.inl ⟨by rfl, ?y24⟩) hHeld ?r24
            case y24 => (intro W hSW; obtain ⟨q0, q1, q2, q3, q4, q5, -, -⟩ := hSW; go_simp; try with_reducible rfl)
            simp only [Act.put, List.setIfInBounds_toArray, List.set_cons_zero, List.set_cons_succ]
            refine wpAnyH_take (i := 5) (oi := Oper.mk (some 54) _ _ _ _ _) (v := .bool false) rfl (by kernel_rfl) (by kernel_rfl) (by kernel_rfl) (fun _ _ _ h => h) (Or.inl ⟨by rfl, ?y25⟩) hHeld ?r25
            case y25 => (intro W hSW; obtain ⟨q0, q1, q2, q3, q4, q5, -, -⟩ := hSW; go_simp; try with_reducible rfl)
            simp only [Act.put, List.setIfInBounds_toArray, List.set_cons_zero, List.set_cons_succ]
            refine wpAnyH_take (i := 6) (oi := Oper.mk (some 55) _ _ _ _ _) (v := ?v26) rfl (by kernel_rfl) (by kernel_rfl) (by kernel_rfl) (fun _ _ _ h => h) (Or.inl ⟨by rfl, ?y26⟩) hHeld ?r26
            case y26 => (intro W hSW; obtain ⟨q0, q1, q2, q3, q4, q5, -, -⟩ := hSW; go_simp; try with_reducible rfl)
            simp only [Act.put, List.setIfInBounds_toArray, List.set_cons_zero, List.set_cons_succ]
            refine wpAnyH_take (i := 7) (oi := Oper.mk (some 56) _ _ _ _ _) (v := ?v27) rfl (by kernel_rfl) (by kernel_rfl) (by kernel_rfl) (fun _ _ _ h => h) (Or.inl ⟨by rfl, ?y27⟩) hHeld ?r27
            case y27 => (intro W hSW; obtain ⟨q0, q1, q2, q3, q4, q5, -, -⟩ := hSW; go_simp; try with_reducible rfl)
            simp only [Act.put, List.setIfInBounds_toArray, List.set_cons_zero, List.set_cons_succ]
            refine wpAnyH_take (i := 8) (oi := Oper.mk (some 57) _ _ _ _ _) (v := ?v28) rfl (by kernel_rfl) (by kernel_rfl) (by kernel_rfl) (fun _ _ _ h => h) (Or.inl ⟨by rfl, ?y28⟩) hHeld ?r28
            case y28 => (intro W hSW; obtain ⟨q0, q1, q2, q3, q4, q5, -, -⟩ := hSW; go_simp; try with_reducible rfl)
            simp only [Act.put, List.setIfInBounds_toArray, List.set_cons_zero, List.set_cons_succ]
            refine wpAnyH_take (i := 9) (oi := Oper.mk (some 58) _ _ _ _ _) (v := ?v29) rfl (by kernel_rfl) (by kernel_rfl) (by kernel_rfl) (fun _ _ _ h => h) (Or.inl ⟨by rfl, ?y29⟩) hHeld ?r29
            case y29 => (intro W hSW; obtain ⟨q0, q1, q2, q3, q4, q5, -, -⟩ := hSW; go_simp; try with_reducible rfl)
            simp only [Act.put, List.setIfInBounds_toArray, List.set_cons_zero, List.set_cons_succ]
            refine wpAnyH_take (i := 10) (oi := Oper.mk (some 59) _ _ _ _ _) (v := ?v30) rfl (by kernel_rfl) (by kernel_rfl) (by kernel_rfl) (fun _ _ _ h => h) (Or.inl ⟨by rfl, ?y30⟩) hHeld ?r30
            case y30 => (intro W hSW; obtain ⟨q0, q1, q2, q3, q4, q5, -, -⟩ := hSW; go_simp; try with_reducible rfl)
            simp only [Act.put, List.setIfInBounds_toArray, List.set_cons_zero, List.set_cons_succ]
            refine wpAnyH_take (i := 11) (oi := Oper.mk (some 60) _ _ _ _ _) (v := ?v31) rfl (by kernel_rfl) (by kernel_rfl) (by kernel_rfl) (fun _ _ _ h => h) (Or.inl ⟨by rfl, ?y31⟩) hHeld ?r31
            case y31 => (intro W hSW; obtain ⟨q0, q1, q2, q3, q4, q5, -, -⟩ := hSW; go_simp; try with_reducible rfl)
            simp only [Act.put, List.setIfInBounds_toArray, List.set_cons_zero, List.set_cons_succ]
            refine wpAnyH_take (i := 12) (oi := Oper.mk (some 61) _ _ _ _ _) (v := .bool false) rfl (by kernel_rfl) (by kernel_rfl) (by kernel_rfl) (fun _ _ _ h => h) (Or.inl ⟨by rfl, ?y32⟩) hHeld ?r32
            case y32 => (intro W hSW; obtain ⟨q0, q1, q2, q3, q4, q5, -, -⟩ := hSW; go_simp; try with_reducible rfl)
            simp only [Act.put, List.setIfInBounds_toArray, List.set_cons_zero, List.set_cons_succ]
            refine wpAnyH_take (i := 13) (oi := Oper.mk (some 62) _ _ _ _ _) (v := ?v33) rfl (by kernel_rfl) (by kernel_rfl) (by kernel_rfl) (fun _ _ _ h => h) (Or.inl ⟨by rfl, ?y33⟩) hHeld ?r33
            case y33 => (intro W hSW; obtain ⟨q0, q1, q2, q3, q4, q5, -, -⟩ := hSW; go_simp; try with_reducible rfl)
            simp only [Act.put, List.setIfInBounds_toArray, List.set_cons_zero, List.set_cons_succ]
            refine wpAnyH_take (i := 14) (oi := Oper.mk (some 63) _ _ _ _ _) (v := ?v34) rfl (by kernel_rfl) (by kernel_rfl) (by kernel_rfl) (fun _ _ _ h => h) (Or.inl ⟨by rfl, ?y34⟩) hHeld ?r34
            case y34 => (intro W hSW; obtain ⟨q0, q1, q2, q3, q4, q5, -, -⟩ := hSW; go_simp; try with_reducible rfl)
            simp only [Act.put, List.setIfInBounds_toArray, List.set_cons_zero, List.set_cons_succ]
            refine wpAnyH_take (i := 15) (oi := Oper.mk (some 64) _ _ _ _ _) (v := ?v35) rfl (by kernel_rfl) (by kernel_rfl) (by kernel_rfl) (fun _ _ _ h => h) (Or.inl ⟨by rfl, ?y35⟩) hHeld ?r35
            case y35 => (intro W hSW; obtain ⟨q0, q1, q2, q3, q4, q5, -, -⟩ := hSW; go_simp; try with_reducible rfl)
            simp only [Act.put, List.setIfInBounds_toArray, List.set_cons_zero, List.set_cons_succ]
            refine wpAnyH_ready (rs := [16]) (by kernel_rfl) (by simp) (AllReadyH.cons (o := Oper.mk (some 65) _ _ _ _ _) rfl (fun Kk hK => ?_) AllReadyH.nil)
            go_simp
            refine (HVo.out _).mono ?_
            rintro e u1 ⟨rfl, b1⟩
            refine hK.out _ _ (keep7 b1 hHeld) (fun hHeld => ?_)
            clear hK Kk
            refine wpAnyH_take (i := 17) (oi := Oper.mk (some 66) _ _ _ _ _) (v := ?v36) rfl (by kernel_rfl) (by kernel_rfl) (by kernel_rfl) (fun _ _ _ h => h) (Or.inl ⟨by rfl, ?y36⟩) hHeld ?r36
            case y36 => (intro W hSW; obtain ⟨q0, q1, q2, q3, q4, q5, -, -⟩ := hSW; go_simp; try with_reducible rfl)
            simp only [Act.put, List.setIfInBounds_toArray, List.set_cons_zero, List.set_cons_succ]
            refine wpAnyH_take (i := 18) (oi := Oper.mk (some 67) _ _ _ _ _) (v := ?v37) rfl (by kernel_rfl) (by kernel_rfl) (by kernel_rfl) (fun _ _ _ h => h) (Or.inl ⟨by rfl, ?y37⟩) hHeld ?r37
            case y37 => (intro W hSW; obtain ⟨q0, q1, q2, q3, q4, q5, -, -⟩ := hSW; go_simp; try with_reducible rfl)
            simp only [Act.put, List.setIfInBounds_toArray, List.set_cons_zero, List.set_cons_succ]
            refine wpAnyH_take (i := 19) (oi := Oper.mk (some 68) _ _ _ _ _) (v := ?v38) rfl (by kernel_rfl) (by kernel_rfl) (by kernel_rfl) (fun _ _ _ h => h) (Or.inl ⟨by rfl, ?y38⟩) hHeld ?r38
            case y38 => (intro W hSW; obtain ⟨q0, q1, q2, q3, q4, q5, -, -⟩ := hSW; go_simp; try with_reducible rfl)
            simp only [Act.put, List.setIfInBounds_toArray, List.set_cons_zero, List.set_cons_succ]
            refine wpAnyH_done (by kernel_rfl) ?_ _
            have BE := hHeld.2.2.2.2.2.2.1
            go_wp2
            go_roundw
            case rel => exact ⟨k + 1, HLt.out, by go_num, by rw [HSf.out], BE⟩
            case measure => have := HLt.out; simp [intOf]; omega
      · have hkn : k = n := by omega
        have HAl : Hid (hasK M L k = bb) := by unfold Hid; rw [hkn, HN.out]; exact HF.out.symm
        rw [HAl.out]
        have Blr : Below w'.heap.size w' wr := B2.trans (hbel.mono B2.size)
        clear HAl HF
        go_wp2_with fail
        refine (drawCompute_any a cap code wr (hr.below Blr) (by omega)).mono ?_
        rintro e w3 ⟨x, g3, c3, M3, rfl, hx, hM3, hsm3, rM3, hb3⟩
        have hfl : x.L.fits := ⟨Nat.le_trans hx.2.1.1 (by unfold maxLen; omega), Nat.le_trans hx.2.1.2 (by unfold maxLen; omega)⟩
        have hfr : x.R.fits := ⟨Nat.le_trans hx.2.2.1 (by unfold maxLen; omega), Nat.le_trans hx.2.2.2 (by unfold maxLen; omega)⟩
        have HE1 := hide (fun W => implExprOk_any x.Op x.L x.R W hfl hfr)
        have HE2 := hide (fun W => specExprOk_any x.Op x.L x.R W hfl hfr)
        obtain ⟨kk, hkk⟩ : ∃ kk, kk = exprB x.Op x.L x.R := ⟨_, rfl⟩
        rw [← hkk] at HE1 HE2
        have B3 : Below w'.heap.size w' w3 := Blr.trans (hb3.mono Blr.size)
        have B4 := B3.alloc B3.size (.cells #[.string x.Op, .int .i64 x.L.K, .string x.L.S, .int .i64 x.L.V.K, .int .i64 x.L.V.N, .string x.L.V.S, .int .i64 x.R.K, .string x.R.S, .int .i64 x.R.V.K, .int .i64 x.R.V.N, .string x.R.V.S] 57)
        have HX4 := hide (boxk_new w3 #[.string x.Op, .int .i64 x.L.K, .string x.L.S, .int .i64 x.L.V.K, .int .i64 x.L.V.N, .string x.L.V.S, .int .i64 x.R.K, .string x.R.S, .int .i64 x.R.V.K, .int .i64 x.R.V.N, .string x.R.V.S] 57)
        have r4 := rM3.below (below_al w3 (.cells #[.string x.Op, .int .i64 x.L.K, .string x.L.S, .int .i64 x.L.V.K, .int .i64 x.L.V.N, .string x.L.V.S, .int .i64 x.R.K, .string x.R.S, .int .i64 x.R.V.K, .int .i64 x.R.V.N, .string x.R.V.S] 57))
        have HC1 := hide (fun (W : World) (h3 : RdBind W (some ⟨g3, 0, none⟩) M3) => implCompute_any x _ c3 M3 W hx h3 hsm3 (by omega))
        have HC2 := hide (fun (W : World) (h3 : RdBind W (some ⟨g3, 0, none⟩) M3) => specCompute_any x _ c3 M3 W hx h3 hsm3 (by omega))
        obtain ⟨q, hq⟩ : ∃ q, q = compO x M3 := ⟨_, rfl⟩
        rw [← hq, bindA_oz] at HC1 HC2
        generalize oz q = u at HC1 HC2
        generalize q.isSome = is at HC1 HC2
        clear hkk hfl hfr hb3 B3 Blr rM3 hbel hq hrv rL2 rM2 B2 hsm3 hx
        go_wp2_with fail
        generalize w3.alloc (.cells #[.string x.Op, .int .i64 x.L.K, .string x.L.S, .int .i64 x.L.V.K, .int .i64 x.L.V.N, .string x.L.V.S, .int .i64 x.R.K, .string x.R.S, .int .i64 x.R.V.K, .int .i64 x.R.V.N, .string x.R.V.S] 57) = w4 at HX4 r4 B4
        refine (HC1.out _ r4).mono ?_
        rintro e w5 ⟨rfl, hb5⟩
        have HX5 := hide (box_step HX4.out hb5)
        have r5 := r4.below hb5
        have B5 : Below w'.heap.size w' w5 := B4.trans (hb5.mono B4.size)
        have HX6 := hide (box_old HX5.out (Array.getElem?_eq_some_iff.1 HX5.out).1 (.cells #[.int .i64 u.K, .int .i64 u.N, .string u.S] 45))
        have r6 := r5.below (below_al w5 (.cells #[.int .i64 u.K, .int .i64 u.N, .string u.S] 45))
        have B6 := B5.alloc B5.size (.cells #[.int .i64 u.K, .int .i64 u.N, .string u.S] 45)
        have hlt5 := (Array.getElem?_eq_some_iff.1 HX5.out).1
        obtain ⟨x0, x1, x2, x3, x4, x5, x6, x7, x8, x9, x10⟩ := cells11 HX5.out
        clear hb5 HX4 r4 B4 r5 B5
        go_wp2_with fail
        clear x0 x1 x2 x3 x4 x5 x6 x7 x8 x9 x10 HX5 hlt5
        generalize w5.alloc (.cells #[.int .i64 u.K, .int .i64 u.N, .string u.S] 45) = w6 at HX6 r6 B6
        refine (HC2.out _ r6).mono ?_
        rintro e w7 ⟨rfl, hb7⟩
        have HX7 := hide (box_step HX6.out hb7)
        have B7 : Below w'.heap.size w' w7 := B6.trans (hb7.mono B6.size)
        have HX8 := hide (box_old HX7.out (Array.getElem?_eq_some_iff.1 HX7.out).1 (.cells #[.int .i64 u.K, .int .i64 u.N, .string u.S] 45))
        have B8 := B7.alloc B7.size (.cells #[.int .i64 u.K, .int .i64 u.N, .string u.S] 45)
        clear hb7 HX6 r6 B6 HX7 B7 HC1 HC2
        have k1 : (bb == bb) = true := by simp
        have k2 : (is == is) = true := by simp
        have k3 : (kk == kk) = true := by simp
        go_wp2_with fail
        generalize w7.alloc (.cells #[.int .i64 u.K, .int .i64 u.N, .string u.S] 45) = w8 at HX8 B8
        have X0 := hide (show w8.drew.heap[w3.heap.size]? = _ from HX8.out)
        have BD := hide (show Below w'.heap.size w' w8.drew from B8.drew)
        obtain ⟨x0, x1, x2, x3, x4, x5, x6, x7, x8, x9, x10⟩ := cells11 X0.out
        clear HX8 B8
        cases bb with
        | true =>
          have hRn : R.length = n := by rw [(HYes.out rfl).1, HN.out]
          have k4 : ((R.length : Int) == (n : Int)) = true := by rw [hRn]; simp
          clear hRn HYes HNo HOk HTx HI HSm HSM k1
          refine wp_region_held_drew (S := fun W => W.cell? ⟨w3.heap.size, 0, none⟩ = some (.string x.Op) ∧ W.cell? ⟨w3.heap.size, 1, none⟩ = some (.int .i64 x.L.K) ∧ W.cell? ⟨w3.heap.size, 2, none⟩ = some (.string x.L.S) ∧ W.cell? ⟨w3.heap.size, 3, none⟩ = some (.int .i64 x.L.V.K) ∧ W.cell? ⟨w3.heap.size, 4, none⟩ = some (.int .i64 x.L.V.N) ∧ W.cell? ⟨w3.heap.size, 5, none⟩ = some (.string x.L.V.S) ∧ W.cell? ⟨w3.heap.size, 6, none⟩ = some (.int .i64 x.R.K) ∧ W.cell? ⟨w3.heap.size, 7, none⟩ = some (.string x.R.S) ∧ W.cell? ⟨w3.heap.size, 8, none⟩ = some (.int .i64 x.R.V.K) ∧ W.cell? ⟨w3.heap.size, 9, none⟩ = some (.int .i64 x.R.V.N) ∧ W.cell? ⟨w3.heap.size, 10, none⟩ = some (.string x.R.V.S)) (by kernel_rfl) (cells11 X0.out) (fun hHeld => ?_)
          refine wpAnyH_take (i := 0) (oi := Oper.mk (some 86) _ _ _ _ _) (v := ?v39) rfl (by kernel_rfl) (by kernel_rfl) (by kernel_rfl) (fun _ _ _ h => h) (Or.inl ⟨by rfl, ?y39⟩) hHeld ?r39
          case y39 => (intro W hSW; obtain ⟨q0, q1, q2, q3, q4, q5, q6, q7, q8, q9, q10⟩ := hSW; go_simp; try with_reducible rfl)
          simp only [Act.put, List.setIfInBounds_toArray, List.set_cons_zero, List.set_cons_succ]
          refine wpAnyH_take (i := 1) (oi := Oper.mk (some 87) _ _ _ _ _) (v := ?v40) rfl (by kernel_rfl) (by kernel_rfl) (by kernel_rfl) (fun _ _ _ h => h) (Or.inl ⟨by rfl, ?y40⟩) hHeld ?r40
          case y40 => (intro W hSW; obtain ⟨q0, q1, q2, q3, q4, q5, q6, q7, q8, q9, q10⟩ := hSW; go_simp; try with_reducible rfl)
          simp only [Act.put, List.setIfInBounds_toArray, List.set_cons_zero, List.set_cons_succ]
          refine wpAnyH_take (i := 2) (oi := Oper.mk (some 88) _ _ _ _ _) (v := ?v41) rfl (by kernel_rfl) (by kernel_rfl) (by kernel_rfl) (fun _ _ _ h => h) (Or.inl ⟨by rfl, ?y41⟩) hHeld ?r41
          case y41 => (intro W hSW; obtain ⟨q0, q1, q2, q3, q4, q5, q6, q7, q8, q9, q10⟩ := hSW; go_simp; try with_reducible rfl)
          simp only [Act.put, List.setIfInBounds_toArray, List.set_cons_zero, List.set_cons_succ]
          refine wpAnyH_take (i := 3) (oi := Oper.mk (some 89) _ _ _ _ _) (v := ?v42) rfl (by kernel_rfl) (by kernel_rfl) (by kernel_rfl) (fun _ _ _ h => h) (Or.inl ⟨by rfl, ?y42⟩) hHeld ?r42
          case y42 => (intro W hSW; obtain ⟨q0, q1, q2, q3, q4, q5, q6, q7, q8, q9, q10⟩ := hSW; go_simp; try with_reducible rfl)
          simp only [Act.put, List.setIfInBounds_toArray, List.set_cons_zero, List.set_cons_succ]
          refine wpAnyH_take (i := 4) (oi := Oper.mk (some 90) _ _ _ _ _) (v := ?v43) rfl (by kernel_rfl) (by kernel_rfl) (by kernel_rfl) (fun _ _ _ h => h) (Or.inl ⟨by rfl, ?y43⟩) hHeld ?r43
          case y43 => (intro W hSW; obtain ⟨q0, q1, q2, q3, q4, q5, q6, q7, q8, q9, q10⟩ := hSW; go_simp; try with_reducible rfl)
          simp only [Act.put, List.setIfInBounds_toArray, List.set_cons_zero, List.set_cons_succ]
          refine wpAnyH_take (i := 5) (oi := Oper.mk (some 91) _ _ _ _ _) (v := ?v44) rfl (by kernel_rfl) (by kernel_rfl) (by kernel_rfl) (fun _ _ _ h => h) (Or.inl ⟨by rfl, ?y44⟩) hHeld ?r44
          case y44 => (intro W hSW; obtain ⟨q0, q1, q2, q3, q4, q5, q6, q7, q8, q9, q10⟩ := hSW; go_simp; try with_reducible rfl)
          simp only [Act.put, List.setIfInBounds_toArray, List.set_cons_zero, List.set_cons_succ]
          refine wpAnyH_take (i := 6) (oi := Oper.mk (some 92) _ _ _ _ _) (v := ?v45) rfl (by kernel_rfl) (by kernel_rfl) (by kernel_rfl) (fun _ _ _ h => h) (Or.inl ⟨by rfl, ?y45⟩) hHeld ?r45
          case y45 => (intro W hSW; obtain ⟨q0, q1, q2, q3, q4, q5, q6, q7, q8, q9, q10⟩ := hSW; go_simp; try with_reducible rfl)
          simp only [Act.put, List.setIfInBounds_toArray, List.set_cons_zero, List.set_cons_succ]
          refine wpAnyH_take (i := 7) (oi := Oper.mk (some 93) _ _ _ _ _) (v := ?v46) rfl (by kernel_rfl) (by kernel_rfl) (by kernel_rfl) (fun _ _ _ h => h) (Or.inl ⟨by rfl, ?y46⟩) hHeld ?r46
          case y46 => (intro W hSW; obtain ⟨q0, q1, q2, q3, q4, q5, q6, q7, q8, q9, q10⟩ := hSW; go_simp; try with_reducible rfl)
          simp only [Act.put, List.setIfInBounds_toArray, List.set_cons_zero, List.set_cons_succ]
          refine wpAnyH_take (i := 8) (oi := Oper.mk (some 94) _ _ _ _ _) (v := ?v47) rfl (by kernel_rfl) (by kernel_rfl) (by kernel_rfl) (fun _ _ _ h => h) (Or.inl ⟨by rfl, ?y47⟩) hHeld ?r47
          case y47 => (intro W hSW; obtain ⟨q0, q1, q2, q3, q4, q5, q6, q7, q8, q9, q10⟩ := hSW; go_simp; try with_reducible rfl)
          simp only [Act.put, List.setIfInBounds_toArray, List.set_cons_zero, List.set_cons_succ]
          refine wpAnyH_take (i := 9) (oi := Oper.mk (some 95) _ _ _ _ _) (v := ?v48) rfl (by kernel_rfl) (by kernel_rfl) (by kernel_rfl) (fun _ _ _ h => h) (Or.inl ⟨by rfl, ?y48⟩) hHeld ?r48
          case y48 => (intro W hSW; obtain ⟨q0, q1, q2, q3, q4, q5, q6, q7, q8, q9, q10⟩ := hSW; go_simp; try with_reducible rfl)
          simp only [Act.put, List.setIfInBounds_toArray, List.set_cons_zero, List.set_cons_succ]
          refine wpAnyH_take (i := 10) (oi := Oper.mk (some 96) _ _ _ _ _) (v := ?v49) rfl (by kernel_rfl) (by kernel_rfl) (by kernel_rfl) (fun _ _ _ h => h) (Or.inl ⟨by rfl, ?y49⟩) hHeld ?r49
          case y49 => (intro W hSW; obtain ⟨q0, q1, q2, q3, q4, q5, q6, q7, q8, q9, q10⟩ := hSW; go_simp; try with_reducible rfl)
          simp only [Act.put, List.setIfInBounds_toArray, List.set_cons_zero, List.set_cons_succ]
          refine wpAnyH_take (i := 11) (oi := Oper.mk (some 97) _ _ _ _ _) (v := ?v50) rfl (by kernel_rfl) (by kernel_rfl) (by kernel_rfl) (fun _ _ _ h => h) (Or.inl ⟨by rfl, ?y50⟩) hHeld ?r50
          case y50 => (intro W hSW; obtain ⟨q0, q1, q2, q3, q4, q5, q6, q7, q8, q9, q10⟩ := hSW; go_simp; try with_reducible rfl)
          simp only [Act.put, List.setIfInBounds_toArray, List.set_cons_zero, List.set_cons_succ]
          refine wpAnyH_take (i := 12) (oi := Oper.mk (some 98) _ _ _ _ _) (v := ?v51) rfl (by kernel_rfl) (by kernel_rfl) (by kernel_rfl) (fun _ _ _ h => h) (Or.inl ⟨by rfl, ?y51⟩) hHeld ?r51
          case y51 => (intro W hSW; obtain ⟨q0, q1, q2, q3, q4, q5, q6, q7, q8, q9, q10⟩ := hSW; go_simp; try with_reducible rfl)
          simp only [Act.put, List.setIfInBounds_toArray, List.set_cons_zero, List.set_cons_succ]
          refine wpAnyH_take (i := 13) (oi := Oper.mk (some 99) _ _ _ _ _) (v := undef) rfl (by kernel_rfl) (by kernel_rfl) (by kernel_rfl) (fun _ _ _ h => h) (Or.inr ⟨by rfl, rfl⟩) hHeld ?_
          simp only [Act.put, List.setIfInBounds_toArray, List.set_cons_zero, List.set_cons_succ]
          refine wpAnyH_take (i := 14) (oi := Oper.mk (some 100) _ _ _ _ _) (v := undef) rfl (by kernel_rfl) (by kernel_rfl) (by kernel_rfl) (fun _ _ _ h => h) (Or.inr ⟨by rfl, rfl⟩) hHeld ?_
          simp only [Act.put, List.setIfInBounds_toArray, List.set_cons_zero, List.set_cons_succ]
          refine wpAnyH_take (i := 15) (oi := Oper.mk (some 101) _ _ _ _ _) (v := undef) rfl (by kernel_rfl) (by kernel_rfl) (by kernel_rfl) (fun _ _ _ h => h) (Or.inr ⟨by rfl, rfl⟩) hHeld ?_
          simp only [Act.put, List.setIfInBounds_toArray, List.set_cons_zero, List.set_cons_succ]
          refine wpAnyH_take (i := 16) (oi := Oper.mk (some 102) _ _ _ _ _) (v := undef) rfl (by kernel_rfl) (by kernel_rfl) (by kernel_rfl) (fun _ _ _ h => h) (Or.inr ⟨by rfl, rfl⟩) hHeld ?_
          simp only [Act.put, List.setIfInBounds_toArray, List.set_cons_zero, List.set_cons_succ]
          refine wpAnyH_take (i := 17) (oi := Oper.mk (some 103) _ _ _ _ _) (v := undef) rfl (by kernel_rfl) (by kernel_rfl) (by kernel_rfl) (fun _ _ _ h => h) (Or.inr ⟨by rfl, rfl⟩) hHeld ?_
          simp only [Act.put, List.setIfInBounds_toArray, List.set_cons_zero, List.set_cons_succ]
          refine wpAnyH_take (i := 18) (oi := Oper.mk (some 104) _ _ _ _ _) (v := undef) rfl (by kernel_rfl) (by kernel_rfl) (by kernel_rfl) (fun _ _ _ h => h) (Or.inr ⟨by rfl, rfl⟩) hHeld ?_
          simp only [Act.put, List.setIfInBounds_toArray, List.set_cons_zero, List.set_cons_succ]
          refine wpAnyH_take (i := 19) (oi := Oper.mk (some 105) _ _ _ _ _) (v := undef) rfl (by kernel_rfl) (by kernel_rfl) (by kernel_rfl) (fun _ _ _ h => h) (Or.inr ⟨by rfl, rfl⟩) hHeld ?_
          simp only [Act.put, List.setIfInBounds_toArray, List.set_cons_zero, List.set_cons_succ]
          refine wpAnyH_take (i := 20) (oi := Oper.mk (some 106) _ _ _ _ _) (v := ?v52) rfl (by kernel_rfl) (by kernel_rfl) (by kernel_rfl) (fun _ _ _ h => h) (Or.inl ⟨by rfl, ?y52⟩) hHeld ?r52
          case y52 => (intro W hSW; obtain ⟨q0, q1, q2, q3, q4, q5, q6, q7, q8, q9, q10⟩ := hSW; go_simp; try with_reducible rfl)
          simp only [Act.put, List.setIfInBounds_toArray, List.set_cons_zero, List.set_cons_succ]
          refine wpAnyH_take (i := 21) (oi := Oper.mk (some 107) _ _ _ _ _) (v := ?v53) rfl (by kernel_rfl) (by kernel_rfl) (by kernel_rfl) (fun _ _ _ h => h) (Or.inl ⟨by rfl, ?y53⟩) hHeld ?r53
          case y53 => (intro W hSW; obtain ⟨q0, q1, q2, q3, q4, q5, q6, q7, q8, q9, q10⟩ := hSW; go_simp; try with_reducible rfl)
          simp only [Act.put, List.setIfInBounds_toArray, List.set_cons_zero, List.set_cons_succ]
          refine wpAnyH_take (i := 22) (oi := Oper.mk (some 108) _ _ _ _ _) (v := ?v54) rfl (by kernel_rfl) (by kernel_rfl) (by kernel_rfl) (fun _ _ _ h => h) (Or.inl ⟨by rfl, ?y54⟩) hHeld ?r54
          case y54 => (intro W hSW; obtain ⟨q0, q1, q2, q3, q4, q5, q6, q7, q8, q9, q10⟩ := hSW; go_simp; try with_reducible rfl)
          simp only [Act.put, List.setIfInBounds_toArray, List.set_cons_zero, List.set_cons_succ]
          refine wpAnyH_take (i := 23) (oi := Oper.mk (some 109) _ _ _ _ _) (v := ?v55) rfl (by kernel_rfl) (by kernel_rfl) (by kernel_rfl) (fun _ _ _ h => h) (Or.inl ⟨by rfl, ?y55⟩) hHeld ?r55
          case y55 => (intro W hSW; obtain ⟨q0, q1, q2, q3, q4, q5, q6, q7, q8, q9, q10⟩ := hSW; go_simp; try with_reducible rfl)
          simp only [Act.put, List.setIfInBounds_toArray, List.set_cons_zero, List.set_cons_succ]
          refine wpAnyH_take (i := 24) (oi := Oper.mk (some 110) _ _ _ _ _) (v := ?v56) rfl (by kernel_rfl) (by kernel_rfl) (by kernel_rfl) (fun _ _ _ h => h) (Or.inl ⟨by rfl, ?y56⟩) hHeld ?r56
          case y56 => (intro W hSW; obtain ⟨q0, q1, q2, q3, q4, q5, q6, q7, q8, q9, q10⟩ := hSW; go_simp; try with_reducible rfl)
          simp only [Act.put, List.setIfInBounds_toArray, List.set_cons_zero, List.set_cons_succ]
          refine wpAnyH_take (i := 25) (oi := Oper.mk (some 111) _ _ _ _ _) (v := ?v57) rfl (by kernel_rfl) (by kernel_rfl) (by kernel_rfl) (fun _ _ _ h => h) (Or.inl ⟨by rfl, ?y57⟩) hHeld ?r57
          case y57 => (intro W hSW; obtain ⟨q0, q1, q2, q3, q4, q5, q6, q7, q8, q9, q10⟩ := hSW; go_simp; try with_reducible rfl)
          simp only [Act.put, List.setIfInBounds_toArray, List.set_cons_zero, List.set_cons_succ]
          refine wpAnyH_take (i := 26) (oi := Oper.mk (some 112) _ _ _ _ _) (v := ?v58) rfl (by kernel_rfl) (by kernel_rfl) (by kernel_rfl) (fun _ _ _ h => h) (Or.inl ⟨by rfl, ?y58⟩) hHeld ?r58
          case y58 => (intro W hSW; obtain ⟨q0, q1, q2, q3, q4, q5, q6, q7, q8, q9, q10⟩ := hSW; go_simp; try with_reducible rfl)
          simp only [Act.put, List.setIfInBounds_toArray, List.set_cons_zero, List.set_cons_succ]
          refine wpAnyH_take (i := 27) (oi := Oper.mk (some 113) _ _ _ _ _) (v := ?v59) rfl (by kernel_rfl) (by kernel_rfl) (by kernel_rfl) (fun _ _ _ h => h) (Or.inl ⟨by rfl, ?y59⟩) hHeld ?r59
          case y59 => (intro W hSW; obtain ⟨q0, q1, q2, q3, q4, q5, q6, q7, q8, q9, q10⟩ := hSW; go_simp; try with_reducible rfl)
          simp only [Act.put, List.setIfInBounds_toArray, List.set_cons_zero, List.set_cons_succ]
          refine wpAnyH_take (i := 28) (oi := Oper.mk (some 114) _ _ _ _ _) (v := ?v60) rfl (by kernel_rfl) (by kernel_rfl) (by kernel_rfl) (fun _ _ _ h => h) (Or.inl ⟨by rfl, ?y60⟩) hHeld ?r60
          case y60 => (intro W hSW; obtain ⟨q0, q1, q2, q3, q4, q5, q6, q7, q8, q9, q10⟩ := hSW; go_simp; try with_reducible rfl)
          simp only [Act.put, List.setIfInBounds_toArray, List.set_cons_zero, List.set_cons_succ]
          refine wpAnyH_take (i := 30) (oi := Oper.mk (some 116) _ _ _ _ _) (v := ?v61) rfl (by kernel_rfl) (by kernel_rfl) (by kernel_rfl) (fun _ _ _ h => h) (Or.inl ⟨by rfl, ?y61⟩) hHeld ?r61
          case y61 => (intro W hSW; obtain ⟨q0, q1, q2, q3, q4, q5, q6, q7, q8, q9, q10⟩ := hSW; go_simp; try with_reducible rfl)
          simp only [Act.put, List.setIfInBounds_toArray, List.set_cons_zero, List.set_cons_succ]
          refine wpAnyH_ready (rs := [29]) (by kernel_rfl) (by simp) (AllReadyH.cons (o := Oper.mk (some 115) _ _ _ _ _) rfl (fun Kk hK => ?_) AllReadyH.nil)
          go_simp
          refine (HE1.out _).mono ?_
          rintro e u1 ⟨rfl, b1⟩
          refine hK.out _ _ (cells11 (box_step X0.out b1)) (fun hHeld => ?_)
          clear hK Kk
          refine wpAnyH_ready (rs := [31]) (by kernel_rfl) (by simp) (AllReadyH.cons (o := Oper.mk (some 117) _ _ _ _ _) rfl (fun Kk hK => ?_) AllReadyH.nil)
          go_simp
          refine (HE2.out _).mono ?_
          rintro e u2 ⟨rfl, b2⟩
          refine hK.out _ _ (cells11 (box_step (box_step X0.out b1) b2)) (fun hHeld => ?_)
          clear hK Kk
          refine wpAnyH_take (i := 32) (oi := Oper.mk (some 118) _ _ _ _ _) (v := ?v62) rfl (by kernel_rfl) (by kernel_rfl) (by kernel_rfl) (fun _ _ _ h => h) (Or.inl ⟨by rfl, ?y62⟩) hHeld ?r62
          case y62 => (intro W hSW; obtain ⟨q0, q1, q2, q3, q4, q5, q6, q7, q8, q9, q10⟩ := hSW; go_simp; try with_reducible rfl)
          simp only [Act.put, List.setIfInBounds_toArray, List.set_cons_zero, List.set_cons_succ]
          refine wpAnyH_take (i := 33) (oi := Oper.mk (some 119) _ _ _ _ _) (v := ?v63) rfl (by kernel_rfl) (by kernel_rfl) (by kernel_rfl) (fun _ _ _ h => h) (Or.inl ⟨by rfl, ?y63⟩) hHeld ?r63
          case y63 => (intro W hSW; obtain ⟨q0, q1, q2, q3, q4, q5, q6, q7, q8, q9, q10⟩ := hSW; go_simp; try with_reducible rfl)
          simp only [Act.put, List.setIfInBounds_toArray, List.set_cons_zero, List.set_cons_succ]
          refine wpAnyH_take (i := 34) (oi := Oper.mk (some 2) _ _ _ _ _) (v := ?v64) rfl (by kernel_rfl) (by kernel_rfl) (by kernel_rfl) (fun _ _ _ h => h) (Or.inl ⟨by rfl, ?y64⟩) hHeld ?r64
          case y64 => (intro W hSW; obtain ⟨q0, q1, q2, q3, q4, q5, q6, q7, q8, q9, q10⟩ := hSW; go_simp; try with_reducible rfl)
          simp only [Act.put, List.setIfInBounds_toArray, List.set_cons_zero, List.set_cons_succ]
          refine wpAnyH_done (by kernel_rfl) ?_ _
          have BE : Below w'.heap.size w' u2 := (BD.out.trans (b1.mono BD.out.size)).trans (b2.mono (BD.out.trans (b1.mono BD.out.size)).size)
          go_wp2
          go_ret
          exact ⟨rfl, BE⟩
        | false =>
          have hR0 : R.length = 0 := by rw [HNo.out rfl]; rfl
          have k4 : ((R.length : Int) == 0) = true := by rw [hR0]; rfl
          clear hR0 HYes HNo HOk HTx HI HSm HSM k1
          refine wp_region_held_drew (S := fun W => W.cell? ⟨w3.heap.size, 0, none⟩ = some (.string x.Op) ∧ W.cell? ⟨w3.heap.size, 1, none⟩ = some (.int .i64 x.L.K) ∧ W.cell? ⟨w3.heap.size, 2, none⟩ = some (.string x.L.S) ∧ W.cell? ⟨w3.heap.size, 3, none⟩ = some (.int .i64 x.L.V.K) ∧ W.cell? ⟨w3.heap.size, 4, none⟩ = some (.int .i64 x.L.V.N) ∧ W.cell? ⟨w3.heap.size, 5, none⟩ = some (.string x.L.V.S) ∧ W.cell? ⟨w3.heap.size, 6, none⟩ = some (.int .i64 x.R.K) ∧ W.cell? ⟨w3.heap.size, 7, none⟩ = some (.string x.R.S) ∧ W.cell? ⟨w3.heap.size, 8, none⟩ = some (.int .i64 x.R.V.K) ∧ W.cell? ⟨w3.heap.size, 9, none⟩ = some (.int .i64 x.R.V.N) ∧ W.cell? ⟨w3.heap.size, 10, none⟩ = some (.string x.R.V.S)) (by kernel_rfl) (cells11 X0.out) (fun hHeld => ?_)
          refine wpAnyH_take (i := 0) (oi := Oper.mk (some 86) _ _ _ _ _) (v := ?v65) rfl (by kernel_rfl) (by kernel_rfl) (by kernel_rfl) (fun _ _ _ h => h) (Or.inl ⟨by rfl, ?y65⟩) hHeld ?r65
          case y65 => (intro W hSW; obtain ⟨q0, q1, q2, q3, q4, q5, q6, q7, q8, q9, q10⟩ := hSW; go_simp; try with_reducible rfl)
          simp only [Act.put, List.setIfInBounds_toArray, List.set_cons_zero, List.set_cons_succ]
          refine wpAnyH_take (i := 1) (oi := Oper.mk (some 87) _ _ _ _ _) (v := ?v66) rfl (by kernel_rfl) (by kernel_rfl) (by kernel_rfl) (fun _ _ _ h => h) (Or.inl ⟨by rfl, ?y66⟩) hHeld ?r66
          case y66 => (intro W hSW; obtain ⟨q0, q1, q2, q3, q4, q5, q6, q7, q8, q9, q10⟩ := hSW; go_simp; try with_reducible rfl)
          simp only [Act.put, List.setIfInBounds_toArray, List.set_cons_zero, List.set_cons_succ]
          refine wpAnyH_take (i := 2) (oi := Oper.mk (some 88) _ _ _ _ _) (v := ?v67) rfl (by kernel_rfl) (by kernel_rfl) (by kernel_rfl) (fun _ _ _ h => h) (Or.inl ⟨by rfl, ?y67⟩) hHeld ?r67
          case y67 => (intro W hSW; obtain ⟨q0, q1, q2, q3, q4, q5, q6, q7, q8, q9, q10⟩ := hSW; go_simp; try with_reducible rfl)
          simp only [Act.put, List.setIfInBounds_toArray, List.set_cons_zero, List.set_cons_succ]
          refine wpAnyH_take (i := 3) (oi := Oper.mk (some 89) _ _ _ _ _) (v := ?v68) rfl (by kernel_rfl) (by kernel_rfl) (by kernel_rfl) (fun _ _ _ h => h) (Or.inl ⟨by rfl, ?y68⟩) hHeld ?r68
          case y68 => (intro W hSW; obtain ⟨q0, q1, q2, q3, q4, q5, q6, q7, q8, q9, q10⟩ := hSW; go_simp; try with_reducible rfl)
          simp only [Act.put, List.setIfInBounds_toArray, List.set_cons_zero, List.set_cons_succ]
          refine wpAnyH_take (i := 4) (oi := Oper.mk (some 90) _ _ _ _ _) (v := ?v69) rfl (by kernel_rfl) (by kernel_rfl) (by kernel_rfl) (fun _ _ _ h => h) (Or.inl ⟨by rfl, ?y69⟩) hHeld ?r69
          case y69 => (intro W hSW; obtain ⟨q0, q1, q2, q3, q4, q5, q6, q7, q8, q9, q10⟩ := hSW; go_simp; try with_reducible rfl)
          simp only [Act.put, List.setIfInBounds_toArray, List.set_cons_zero, List.set_cons_succ]
          refine wpAnyH_take (i := 5) (oi := Oper.mk (some 91) _ _ _ _ _) (v := ?v70) rfl (by kernel_rfl) (by kernel_rfl) (by kernel_rfl) (fun _ _ _ h => h) (Or.inl ⟨by rfl, ?y70⟩) hHeld ?r70
          case y70 => (intro W hSW; obtain ⟨q0, q1, q2, q3, q4, q5, q6, q7, q8, q9, q10⟩ := hSW; go_simp; try with_reducible rfl)
          simp only [Act.put, List.setIfInBounds_toArray, List.set_cons_zero, List.set_cons_succ]
          refine wpAnyH_take (i := 6) (oi := Oper.mk (some 92) _ _ _ _ _) (v := undef) rfl (by kernel_rfl) (by kernel_rfl) (by kernel_rfl) (fun _ _ _ h => h) (Or.inr ⟨by rfl, rfl⟩) hHeld ?_
          simp only [Act.put, List.setIfInBounds_toArray, List.set_cons_zero, List.set_cons_succ]
          refine wpAnyH_take (i := 7) (oi := Oper.mk (some 93) _ _ _ _ _) (v := undef) rfl (by kernel_rfl) (by kernel_rfl) (by kernel_rfl) (fun _ _ _ h => h) (Or.inr ⟨by rfl, rfl⟩) hHeld ?_
          simp only [Act.put, List.setIfInBounds_toArray, List.set_cons_zero, List.set_cons_succ]
          refine wpAnyH_take (i := 8) (oi := Oper.mk (some 94) _ _ _ _ _) (v := undef) rfl (by kernel_rfl) (by kernel_rfl) (by kernel_rfl) (fun _ _ _ h => h) (Or.inr ⟨by rfl, rfl⟩) hHeld ?_
          simp only [Act.put, List.setIfInBounds_toArray, List.set_cons_zero, List.set_cons_succ]
          refine wpAnyH_take (i := 9) (oi := Oper.mk (some 95) _ _ _ _ _) (v := undef) rfl (by kernel_rfl) (by kernel_rfl) (by kernel_rfl) (fun _ _ _ h => h) (Or.inr ⟨by rfl, rfl⟩) hHeld ?_
          simp only [Act.put, List.setIfInBounds_toArray, List.set_cons_zero, List.set_cons_succ]
          refine wpAnyH_take (i := 10) (oi := Oper.mk (some 96) _ _ _ _ _) (v := undef) rfl (by kernel_rfl) (by kernel_rfl) (by kernel_rfl) (fun _ _ _ h => h) (Or.inr ⟨by rfl, rfl⟩) hHeld ?_
          simp only [Act.put, List.setIfInBounds_toArray, List.set_cons_zero, List.set_cons_succ]
          refine wpAnyH_take (i := 11) (oi := Oper.mk (some 97) _ _ _ _ _) (v := ?v71) rfl (by kernel_rfl) (by kernel_rfl) (by kernel_rfl) (fun _ _ _ h => h) (Or.inl ⟨by rfl, ?y71⟩) hHeld ?r71
          case y71 => (intro W hSW; obtain ⟨q0, q1, q2, q3, q4, q5, q6, q7, q8, q9, q10⟩ := hSW; go_simp; try with_reducible rfl)
          simp only [Act.put, List.setIfInBounds_toArray, List.set_cons_zero, List.set_cons_succ]
          refine wpAnyH_take (i := 12) (oi := Oper.mk (some 98) _ _ _ _ _) (v := ?v72) rfl (by kernel_rfl) (by kernel_rfl) (by kernel_rfl) (fun _ _ _ h => h) (Or.inl ⟨by rfl, ?y72⟩) hHeld ?r72
          case y72 => (intro W hSW; obtain ⟨q0, q1, q2, q3, q4, q5, q6, q7, q8, q9, q10⟩ := hSW; go_simp; try with_reducible rfl)
          simp only [Act.put, List.setIfInBounds_toArray, List.set_cons_zero, List.set_cons_succ]
          refine wpAnyH_take (i := 13) (oi := Oper.mk (some 99) _ _ _ _ _) (v := ?v73) rfl (by kernel_rfl) (by kernel_rfl) (by kernel_rfl) (fun _ _ _ h => h) (Or.inl ⟨by rfl, ?y73⟩) hHeld ?r73
          case y73 => (intro W hSW; obtain ⟨q0, q1, q2, q3, q4, q5, q6, q7, q8, q9, q10⟩ := hSW; go_simp; try with_reducible rfl)
          simp only [Act.put, List.setIfInBounds_toArray, List.set_cons_zero, List.set_cons_succ]
          refine wpAnyH_take (i := 14) (oi := Oper.mk (some 100) _ _ _ _ _) (v := ?v74) rfl (by kernel_rfl) (by kernel_rfl) (by kernel_rfl) (fun _ _ _ h => h) (Or.inl ⟨by rfl, ?y74⟩) hHeld ?r74
          case y74 => (intro W hSW; obtain ⟨q0, q1, q2, q3, q4, q5, q6, q7, q8, q9, q10⟩ := hSW; go_simp; try with_reducible rfl)
          simp only [Act.put, List.setIfInBounds_toArray, List.set_cons_zero, List.set_cons_succ]
          refine wpAnyH_take (i := 15) (oi := Oper.mk (some 101) _ _ _ _ _) (v := ?v75) rfl (by kernel_rfl) (by kernel_rfl) (by kernel_rfl) (fun _ _ _ h => h) (Or.inl ⟨by rfl, ?y75⟩) hHeld ?r75
          case y75 => (intro W hSW; obtain ⟨q0, q1, q2, q3, q4, q5, q6, q7, q8, q9, q10⟩ := hSW; go_simp; try with_reducible rfl)
          simp only [Act.put, List.setIfInBounds_toArray, List.set_cons_zero, List.set_cons_succ]
          refine wpAnyH_take (i := 16) (oi := Oper.mk (some 102) _ _ _ _ _) (v := ?v76) rfl (by kernel_rfl) (by kernel_rfl) (by kernel_rfl) (fun _ _ _ h => h) (Or.inl ⟨by rfl, ?y76⟩) hHeld ?r76
          case y76 => (intro W hSW; obtain ⟨q0, q1, q2, q3, q4, q5, q6, q7, q8, q9, q10⟩ := hSW; go_simp; try with_reducible rfl)
          simp only [Act.put, List.setIfInBounds_toArray, List.set_cons_zero, List.set_cons_succ]
          refine wpAnyH_take (i := 17) (oi := Oper.mk (some 103) _ _ _ _ _) (v := ?v77) rfl (by kernel_rfl) (by kernel_rfl) (by kernel_rfl) (fun _ _ _ h => h) (Or.inl ⟨by rfl, ?y77⟩) hHeld ?r77
          case y77 => (intro W hSW; obtain ⟨q0, q1, q2, q3, q4, q5, q6, q7, q8, q9, q10⟩ := hSW; go_simp; try with_reducible rfl)
          simp only [Act.put, List.setIfInBounds_toArray, List.set_cons_zero, List.set_cons_succ]
          refine wpAnyH_take (i := 18) (oi := Oper.mk (some 104) _ _ _ _ _) (v := ?v78) rfl (by kernel_rfl) (by kernel_rfl) (by kernel_rfl) (fun _ _ _ h => h) (Or.inl ⟨by rfl, ?y78⟩) hHeld ?r78
          case y78 => (intro W hSW; obtain ⟨q0, q1, q2, q3, q4, q5, q6, q7, q8, q9, q10⟩ := hSW; go_simp; try with_reducible rfl)
          simp only [Act.put, List.setIfInBounds_toArray, List.set_cons_zero, List.set_cons_succ]
          refine wpAnyH_take (i := 19) (oi := Oper.mk (some 105) _ _ _ _ _) (v := ?v79) rfl (by kernel_rfl) (by kernel_rfl) (by kernel_rfl) (fun _ _ _ h => h) (Or.inl ⟨by rfl, ?y79⟩) hHeld ?r79
          case y79 => (intro W hSW; obtain ⟨q0, q1, q2, q3, q4, q5, q6, q7, q8, q9, q10⟩ := hSW; go_simp; try with_reducible rfl)
          simp only [Act.put, List.setIfInBounds_toArray, List.set_cons_zero, List.set_cons_succ]
          refine wpAnyH_take (i := 20) (oi := Oper.mk (some 106) _ _ _ _ _) (v := ?v80) rfl (by kernel_rfl) (by kernel_rfl) (by kernel_rfl) (fun _ _ _ h => h) (Or.inl ⟨by rfl, ?y80⟩) hHeld ?r80
          case y80 => (intro W hSW; obtain ⟨q0, q1, q2, q3, q4, q5, q6, q7, q8, q9, q10⟩ := hSW; go_simp; try with_reducible rfl)
          simp only [Act.put, List.setIfInBounds_toArray, List.set_cons_zero, List.set_cons_succ]
          refine wpAnyH_take (i := 21) (oi := Oper.mk (some 107) _ _ _ _ _) (v := ?v81) rfl (by kernel_rfl) (by kernel_rfl) (by kernel_rfl) (fun _ _ _ h => h) (Or.inl ⟨by rfl, ?y81⟩) hHeld ?r81
          case y81 => (intro W hSW; obtain ⟨q0, q1, q2, q3, q4, q5, q6, q7, q8, q9, q10⟩ := hSW; go_simp; try with_reducible rfl)
          simp only [Act.put, List.setIfInBounds_toArray, List.set_cons_zero, List.set_cons_succ]
          refine wpAnyH_take (i := 22) (oi := Oper.mk (some 108) _ _ _ _ _) (v := ?v82) rfl (by kernel_rfl) (by kernel_rfl) (by kernel_rfl) (fun _ _ _ h => h) (Or.inl ⟨by rfl, ?y82⟩) hHeld ?r82
          case y82 => (intro W hSW; obtain ⟨q0, q1, q2, q3, q4, q5, q6, q7, q8, q9, q10⟩ := hSW; go_simp; try with_reducible rfl)
          simp only [Act.put, List.setIfInBounds_toArray, List.set_cons_zero, List.set_cons_succ]
          refine wpAnyH_take (i := 23) (oi := Oper.mk (some 109) _ _ _ _ _) (v := ?v83) rfl (by kernel_rfl) (by kernel_rfl) (by kernel_rfl) (fun _ _ _ h => h) (Or.inl ⟨by rfl, ?y83⟩) hHeld ?r83
          case y83 => (intro W hSW; obtain ⟨q0, q1, q2, q3, q4, q5, q6, q7, q8, q9, q10⟩ := hSW; go_simp; try with_reducible rfl)
          simp only [Act.put, List.setIfInBounds_toArray, List.set_cons_zero, List.set_cons_succ]
          refine wpAnyH_take (i := 24) (oi := Oper.mk (some 110) _ _ _ _ _) (v := ?v84) rfl (by kernel_rfl) (by kernel_rfl) (by kernel_rfl) (fun _ _ _ h => h) (Or.inl ⟨by rfl, ?y84⟩) hHeld ?r84
          case y84 => (intro W hSW; obtain ⟨q0, q1, q2, q3, q4, q5, q6, q7, q8, q9, q10⟩ := hSW; go_simp; try with_reducible rfl)
          simp only [Act.put, List.setIfInBounds_toArray, List.set_cons_zero, List.set_cons_succ]
          refine wpAnyH_take (i := 25) (oi := Oper.mk (some 111) _ _ _ _ _) (v := ?v85) rfl (by kernel_rfl) (by kernel_rfl) (by kernel_rfl) (fun _ _ _ h => h) (Or.inl ⟨by rfl, ?y85⟩) hHeld ?r85
          case y85 => (intro W hSW; obtain ⟨q0, q1, q2, q3, q4, q5, q6, q7, q8, q9, q10⟩ := hSW; go_simp; try with_reducible rfl)
          simp only [Act.put, List.setIfInBounds_toArray, List.set_cons_zero, List.set_cons_succ]
          refine wpAnyH_take (i := 26) (oi := Oper.mk (some 112) _ _ _ _ _) (v := ?v86) rfl (by kernel_rfl) (by kernel_rfl) (by kernel_rfl) (fun _ _ _ h => h) (Or.inl ⟨by rfl, ?y86⟩) hHeld ?r86
          case y86 => (intro W hSW; obtain ⟨q0, q1, q2, q3, q4, q5, q6, q7, q8, q9, q10⟩ := hSW; go_simp; try with_reducible rfl)
          simp only [Act.put, List.setIfInBounds_toArray, List.set_cons_zero, List.set_cons_succ]
          refine wpAnyH_take (i := 27) (oi := Oper.mk (some 113) _ _ _ _ _) (v := ?v87) rfl (by kernel_rfl) (by kernel_rfl) (by kernel_rfl) (fun _ _ _ h => h) (Or.inl ⟨by rfl, ?y87⟩) hHeld ?r87
          case y87 => (intro W hSW; obtain ⟨q0, q1, q2, q3, q4, q5, q6, q7, q8, q9, q10⟩ := hSW; go_simp; try with_reducible rfl)
          simp only [Act.put, List.setIfInBounds_toArray, List.set_cons_zero, List.set_cons_succ]
          refine wpAnyH_take (i := 28) (oi := Oper.mk (some 114) _ _ _ _ _) (v := ?v88) rfl (by kernel_rfl) (by kernel_rfl) (by kernel_rfl) (fun _ _ _ h => h) (Or.inl ⟨by rfl, ?y88⟩) hHeld ?r88
          case y88 => (intro W hSW; obtain ⟨q0, q1, q2, q3, q4, q5, q6, q7, q8, q9, q10⟩ := hSW; go_simp; try with_reducible rfl)
          simp only [Act.put, List.setIfInBounds_toArray, List.set_cons_zero, List.set_cons_succ]
          refine wpAnyH_take (i := 30) (oi := Oper.mk (some 116) _ _ _ _ _) (v := ?v89) rfl (by kernel_rfl) (by kernel_rfl) (by kernel_rfl) (fun _ _ _ h => h) (Or.inl ⟨by rfl, ?y89⟩) hHeld ?r89
          case y89 => (intro W hSW; obtain ⟨q0, q1, q2, q3, q4, q5, q6, q7, q8, q9, q10⟩ := hSW; go_simp; try with_reducible rfl)
          simp only [Act.put, List.setIfInBounds_toArray, List.set_cons_zero, List.set_cons_succ]
          refine wpAnyH_ready (rs := [29]) (by kernel_rfl) (by simp) (AllReadyH.cons (o := Oper.mk (some 115) _ _ _ _ _) rfl (fun Kk hK => ?_) AllReadyH.nil)
          go_simp
          refine (HE1.out _).mono ?_
          rintro e u1 ⟨rfl, b1⟩
          refine hK.out _ _ (cells11 (box_step X0.out b1)) (fun hHeld => ?_)
          clear hK Kk
          refine wpAnyH_ready (rs := [31]) (by kernel_rfl) (by simp) (AllReadyH.cons (o := Oper.mk (some 117) _ _ _ _ _) rfl (fun Kk hK => ?_) AllReadyH.nil)
          go_simp
          refine (HE2.out _).mono ?_
          rintro e u2 ⟨rfl, b2⟩
          refine hK.out _ _ (cells11 (box_step (box_step X0.out b1) b2)) (fun hHeld => ?_)
          clear hK Kk
          refine wpAnyH_take (i := 32) (oi := Oper.mk (some 118) _ _ _ _ _) (v := ?v90) rfl (by kernel_rfl) (by kernel_rfl) (by kernel_rfl) (fun _ _ _ h => h) (Or.inl ⟨by rfl, ?y90⟩) hHeld ?r90
          case y90 => (intro W hSW; obtain ⟨q0, q1, q2, q3, q4, q5, q6, q7, q8, q9, q10⟩ := hSW; go_simp; try with_reducible rfl)
          simp only [Act.put, List.setIfInBounds_toArray, List.set_cons_zero, List.set_cons_succ]
          refine wpAnyH_take (i := 33) (oi := Oper.mk (some 119) _ _ _ _ _) (v := ?v91) rfl (by kernel_rfl) (by kernel_rfl) (by kernel_rfl) (fun _ _ _ h => h) (Or.inl ⟨by rfl, ?y91⟩) hHeld ?r91
          case y91 => (intro W hSW; obtain ⟨q0, q1, q2, q3, q4, q5, q6, q7, q8, q9, q10⟩ := hSW; go_simp; try with_reducible rfl)
          simp only [Act.put, List.setIfInBounds_toArray, List.set_cons_zero, List.set_cons_succ]
          refine wpAnyH_take (i := 34) (oi := Oper.mk (some 2) _ _ _ _ _) (v := ?v92) rfl (by kernel_rfl) (by kernel_rfl) (by kernel_rfl) (fun _ _ _ h => h) (Or.inl ⟨by rfl, ?y92⟩) hHeld ?r92
          case y92 => (intro W hSW; obtain ⟨q0, q1, q2, q3, q4, q5, q6, q7, q8, q9, q10⟩ := hSW; go_simp; try with_reducible rfl)
          simp only [Act.put, List.setIfInBounds_toArray, List.set_cons_zero, List.set_cons_succ]
          refine wpAnyH_done (by kernel_rfl) ?_ _
          have BE : Below w'.heap.size w' u2 := (BD.out.trans (b1.mono BD.out.size)).trans (b2.mono (BD.out.trans (b1.mono BD.out.size)).size)
          go_wp2
          go_ret
          exact ⟨rfl, BE⟩

theorem walk (a0 : Option Addr) (len0 cap0 : Nat) (z0 : List Int) (w : World) (w0 : IsRow .u8 w a0 len0 cap0 z0) :
    Calls Try.prog 5 #[.slice a0 len0 cap0] w fun e w' => e = .returned (.bool true) ∧ Below w.heap.size w w' := by
  obtain ⟨bs, hl, hr⟩ := rd_row w0
  have hm : len0 ≤ maxLen := isRow_len w0
  subst hl
  exact law a0 cap0 bs w hr hm

theorem own : ownKnob Try.prog.godebug = none := by kernel_rfl
theorem laidOut : laidOutB Try.prog = true := by kernel_rfl

set_option maxRecDepth 100000 in
theorem lifted (os : Os) (started : os.Started) (H : Type) (enc : TypeId × Value → H) :
    ReturnsInHanded {} Try.checked os 5 .any (Rows.fnComputedSpec.pre6 enc Try.prog Try.f5 Rows.fnComputedRow.domain false) (Rows.fnComputedSpec.post enc Try.prog Try.f5 false true false false) := by
  refine returnsInHanded_of_change (C := Try.checked) own started (by kernel_rfl) Try.func5
    (ChangeSpec.witness6 (enc := enc) (C := Try.checked) false ⟨#[], #[.slice none 0 0], []⟩ 8 (by kernel_rfl) (by kernel_rfl) (by kernel_rfl) (by kernel_rfl)) ?_
  intro W base args ds gs before hval0 hW hcnd _
  have hval : ∀ (j : Nat) t v, Try.f5.params[j]? = some t → args[j]? = some v → Value.okWide Try.prog W .any base t v := hval0
  have hW' := hW
  obtain ⟨p, q, hA0, hV, rfl, hfz, hnd⟩ := hW
  have hA : DataW.TrodAll enc Try.prog W 0 (fun _ => true) true Try.f5.params.toList args.toList ds p := hA0
  rw [Try.params5] at hA hval
  obtain ⟨v0, vs0, d0, ds0, p0, q0, hargs, rfl, rfl, h0, r0⟩ := trodAll_cons hA
  obtain ⟨rfl, rfl, rfl⟩ := trodAll_nil r0
  obtain rfl : args = #[v0] := by cases args; simp_all
  obtain ⟨rfl, rfl⟩ := trodVars_none hV
  obtain ⟨a0, len0, cap0, rfl⟩ := okWide_slice Try.underlying22 (hval 0 22 v0 rfl rfl)
  have k0 := h0
  have lt0 : ∀ x ∈ p0, x.block < W.heap.size := by obtain ⟨m, hm⟩ := k0; exact DataW.trod_lt m _ _ _ hm
  obtain ⟨z0, w0⟩ : ∃ zs, IsRow .u8 W a0 len0 cap0 zs := by
    obtain ⟨fuel, hf⟩ := h0
    rcases open_ints Try.underlying22 Try.underlying5 (by kernel_rfl) hf with ⟨hcs, _⟩ | ⟨x, l, c, zs, hcs, _, hl, hm, hz, _, hcell, hwz⟩
    · simp [Value.cells] at hcs
      obtain ⟨rfl, rfl, rfl⟩ := hcs
      exact ⟨[], .inl ⟨rfl, rfl, rfl, rfl⟩⟩
    · simp [Value.cells] at hcs
      obtain ⟨rfl, rfl, rfl⟩ := hcs
      exact ⟨zs, .inr ⟨_, rfl, hl, hm, by simpa using hz, hcell, hwz⟩⟩
  clear hA0 hval0
  refine (walk a0 len0 cap0 z0 W w0).mono fun e W' ⟨he, bel⟩ => ?_
  subst he
  exact ⟨_, rfl, _, _, _, [], _, [], hW', trodAll_mk1 (shut_bool Try.underlying4 _), (trodAll_cons_mk (Below.trod laidOut (by kernel_rfl) (of_decide_eq_true (by kernel_rfl)) k0 bel lt0) trodAll_mk0), rfl, bel.frame _, fun h => by cases h⟩

theorem over : Rows.fnComputedRow.holds Try.pinned (OpenSpec.ofChange Rows.fnComputedSpec) :=
  OpenClaim.holds_of_wide 5 Try.f5 rfl rfl rfl rfl rfl rfl rfl ⟨rfl, rfl, rfl, rfl, rfl⟩ rfl rfl rfl rfl rfl (by kernel_rfl) Try.func5 (by kernel_rfl)
    (of_decide_eq_true (by kernel_rfl)) (by unfold Func.isWrapper; first | (rw [if_pos (by decide +kernel)]; kernel_rfl) | (rw [if_neg (by decide +kernel)]; exact ⟨rfl, rfl⟩))
    (fun os started H enc _ => lifted os started H enc)
end Go.Proofs.Ytbellpalomiokab.LawComputed
namespace Go.Proofs.Ytbellpalomiokab
theorem fnComputed_holds : Rows.FnComputedSaid := LawComputed.over
#print axioms fnComputed_holds
end Go.Proofs.Ytbellpalomiokab
