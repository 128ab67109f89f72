/-
  Proved: for every row of bytes, the law on conditions answers true (of two values just one of the same and not the same holds; less only where they are not), and the row reads as it did. No condition.
-/
import Derived.Test.YtlaoiagpoomldaaJoined1
import Derived.Test.YtlaoiagpoomldaaJoined2
import Derived.Test.YtlaoiagpoomldaaJDrawHo
import Derived.Test.YtlaoiagpoomldaaRows
import Derived.ProofKit
import Derived.OpenShut
import Derived.ShutString
import Derived.ChangeOld
import Derived.Below
import Derived.Deep.RegionHeld3
namespace Go.Proofs.Ytlaoiagpoomldaa.LawConds
open Go.ChangeShapes Go.WideShapes Go.ChangeAt Go.RowKit
open Go.ChangeMaps (open_string shut_string)
set_option linter.unusedVariables false

set_option maxHeartbeats 400000 in
theorem big_any (a : Option Addr) (len cap : Nat) (w : World) (h : len ≤ 9223372036854775807) :
    Calls Try.prog 27 #[.slice a len cap] w fun e w' => e = .returned (.bool (decide ((1048576 : Int) < (len : Int)))) ∧ w' = w := by
  go_enter Try.func27, Try.ntmps27
  go_wp2
  go_ret
  exact ⟨rfl, rfl⟩
theorem cells11 {W : World} {q : Nat} {x : C11} (h : W.heap[q]? = some (.cells #[.int .i64 x.Op, .int .i64 x.L.K, .string x.L.S, .int .i64 x.L.V.K, .int .i64 x.L.V.N, .string x.L.V.S, .int .i64 x.R.K, .string x.R.S, .int .i64 x.R.V.K, .int .i64 x.R.V.N, .string x.R.V.S] 34 (0, 0))) :
    W.cell? ⟨q, 0, none⟩ = some (.int .i64 x.Op) ∧ W.cell? ⟨q, 1, none⟩ = some (.int .i64 x.L.K) ∧ W.cell? ⟨q, 2, none⟩ = some (.string x.L.S) ∧ W.cell? ⟨q, 3, none⟩ = some (.int .i64 x.L.V.K) ∧ W.cell? ⟨q, 4, none⟩ = some (.int .i64 x.L.V.N) ∧ W.cell? ⟨q, 5, none⟩ = some (.string x.L.V.S) ∧ W.cell? ⟨q, 6, none⟩ = some (.int .i64 x.R.K) ∧ W.cell? ⟨q, 7, none⟩ = some (.string x.R.S) ∧ W.cell? ⟨q, 8, none⟩ = some (.int .i64 x.R.V.K) ∧ W.cell? ⟨q, 9, none⟩ = some (.int .i64 x.R.V.N) ∧ W.cell? ⟨q, 10, none⟩ = some (.string x.R.V.S) :=
  ⟨boxk_cell h 0 _ rfl, boxk_cell h 1 _ rfl, boxk_cell h 2 _ rfl, boxk_cell h 3 _ rfl, boxk_cell h 4 _ rfl, boxk_cell h 5 _ rfl, boxk_cell h 6 _ rfl, boxk_cell h 7 _ rfl, boxk_cell h 8 _ rfl, boxk_cell h 9 _ rfl, boxk_cell h 10 _ rfl⟩
/-- what the four conditions answer, of what the two arguments are -/
theorem four (ov ou : Option V3) (bb bc : Bool) (hv : ∃ v, (bb = true ∧ ov = some v) ∨ (bb = false ∧ ov = none)) (hu : ∃ u, (bc = true ∧ ou = some u) ∨ (bc = false ∧ ou = none)) (s o l m : Bool)
    (hs : s = holdsO 1 ov ou) (ho : o = holdsO 2 ov ou) (hl : l = holdsO 3 ov ou) (hm : m = holdsO 3 ou ov) :
    (bb = false ∧ s = false ∧ o = false ∧ l = false ∧ m = false) ∨ (bb = true ∧ bc = false ∧ s = false ∧ o = false ∧ l = false ∧ m = false) ∨ (bb = true ∧ bc = true ∧ s = true ∧ o = false ∧ l = false ∧ m = false) ∨ (bb = true ∧ bc = true ∧ s = false ∧ o = true ∧ l = true ∧ m = false) ∨ (bb = true ∧ bc = true ∧ s = false ∧ o = true ∧ l = false ∧ m = true) := by
  obtain ⟨v, ⟨rfl, rfl⟩ | ⟨rfl, rfl⟩⟩ := hv
  · obtain ⟨u, ⟨rfl, rfl⟩ | ⟨rfl, rfl⟩⟩ := hu
    · right; right
      have e1 : s = decide (v = u) := by rw [hs]; exact holdB1 v u
      have e2 : o = !decide (v = u) := by rw [ho]; exact holdB2 v u
      have e3 : l = lessB v.K v.N v.S u.K u.N u.S := by rw [hl]; exact holdB3 v u
      have e4 : m = lessB u.K u.N u.S v.K v.N v.S := by rw [hm]; exact holdB3 u v
      rcases order_cases v.K v.N v.S u.K u.N u.S with ⟨h1, h2, h3, h4⟩ | ⟨hne, h⟩
      · have hvu : v = u := V3.ext' h1 h2 h3
        subst hvu
        left
        exact ⟨rfl, rfl, by rw [e1]; simp, by rw [e2]; simp, by rw [e3, h4], by rw [e4, h4]⟩
      · right
        have hvu : v ≠ u := by
          rintro rfl
          rcases hne with h | ⟨-, h⟩ | ⟨-, -, h⟩ <;> simp at h
        rw [decide_eq_false hvu] at e1 e2
        rcases h with ⟨h1, h2⟩ | ⟨h1, h2⟩
        · left; exact ⟨rfl, rfl, e1, e2, by rw [e3, h1], by rw [e4, h2]⟩
        · right; exact ⟨rfl, rfl, e1, e2, by rw [e3, h1], by rw [e4, h2]⟩
    · right; left
      exact ⟨rfl, rfl, hs, ho, hl, hm⟩
  · left
    exact ⟨rfl, by rw [hs, holdsO_none], by rw [ho, holdsO_none], by rw [hl, holdsO_none], by rw [hm, holdsO_none2]⟩

set_option maxRecDepth 100000 in
set_option maxHeartbeats 6400000 in
theorem law (a : Option Addr) (cap : Nat) (code : List UInt8) (w : World) (hr : Rd w a code) (hm : code.length ≤ maxLen) :
    Calls Try.prog 7 #[.slice a code.length cap] w fun e w' => e = .returned (.bool true) ∧ Below w.heap.size w w' := by
  unfold maxLen at hm
  by_cases hb : 1048576 < code.length
  · have hd : decide ((1048576 : Int) < (code.length : Int)) = true := by simp; omega
    go_enter Try.func7, Try.ntmps7
    go_wp2_with (go_at_call 27; refine (big_any _ _ _ _ (by omega)).mono ?_; rintro e w' ⟨rfl, rfl⟩)
    go_ret
    exact ⟨rfl, Below.refl _ _⟩
  · have hd : decide ((1048576 : Int) < (code.length : Int)) = false := by simp; omega
    go_enter Try.func7, Try.ntmps7
    go_wp2_with fail
    refine (big_any _ _ _ _ (by omega)).mono ?_
    rintro e w' ⟨rfl, rfl⟩
    go_wp2_with fail
    refine (drawHolds_any a cap code w' hr (by omega)).mono ?_
    rintro e w1 ⟨x, g, c, M, rfl, hx, hM, hsm, rM, B1⟩
    have HSm := hide hsm
    have HLL := hide hx.1
    have HLR := hide hx.2
    have HI := hide (fun Op L R (W : World) (h1 : A5.small L) (h2 : A5.small R) (h3 : RdBind W (some ⟨g, 0, none⟩) M) => implHolds_any Op L R _ c M W h1 h2 h3 HSm.out (by omega))
    have HA := hide (fun K S VK VN VS (W : World) (h1 : VS.size ≤ 1048576) (h3 : RdBind W (some ⟨g, 0, none⟩) M) => implArgVal_any K S VK VN VS _ c M W h1 h3 HSm.out (by omega))
    have HSp := hide (fun Op L R (W : World) (h3 : RdBind W (some ⟨g, 0, none⟩) M) => specHolds_any Op L R _ c M W h3 (by omega))
    obtain ⟨ov, hov⟩ : ∃ ov, ov = argV x.L.K x.L.S x.L.V M := ⟨_, rfl⟩
    obtain ⟨ou, hou⟩ : ∃ ou, ou = argV x.R.K x.R.S x.R.V M := ⟨_, rfl⟩
    have HOv := hide hov
    have HOu := hide hou
    obtain ⟨v, bb, e1, H1⟩ := bindA_two ov
    obtain ⟨u, bc, e2, H2⟩ := bindA_two ou
    have HE1 := hide e1
    have HE2 := hide e2
    obtain ⟨ss, hss⟩ : ∃ s, s = holdsO 1 ov ou := ⟨_, rfl⟩
    obtain ⟨oo, hoo⟩ : ∃ s, s = holdsO 2 ov ou := ⟨_, rfl⟩
    obtain ⟨ll, hll⟩ : ∃ s, s = holdsO 3 ov ou := ⟨_, rfl⟩
    obtain ⟨mm, hmm⟩ : ∃ s, s = holdsO 3 ou ov := ⟨_, rfl⟩
    have H4 := hide (four ov ou bb bc ⟨v, H1⟩ ⟨u, H2⟩ ss oo ll mm hss hoo hll hmm)
    have Hss := hide hss
    have Hoo := hide hoo
    have Hll := hide hll
    have Hmm := hide hmm
    obtain ⟨hh, hhh⟩ : ∃ h, h = holdsO x.Op ov ou := ⟨_, rfl⟩
    have Hhh := hide hhh
    obtain ⟨kk, hkk⟩ : ∃ h, h = condB x.Op x.L x.R := ⟨_, rfl⟩
    have Hkk := hide hkk
    have hfl : x.L.fits := ⟨Nat.le_trans hx.1.1 (by unfold maxLen; omega), Nat.le_trans hx.1.2 (by unfold maxLen; omega)⟩
    have hfr : x.R.fits := ⟨Nat.le_trans hx.2.1 (by unfold maxLen; omega), Nat.le_trans hx.2.2 (by unfold maxLen; omega)⟩
    have HK1 := hide (fun (W : World) => implCondOk_any x.Op x.L x.R W hfl hfr)
    have HK2 := hide (fun (W : World) => specCondOk_any x.Op x.L x.R W hfl hfr)
    clear hsm hx hov hou e1 e2 H1 H2 hss hoo hll hmm hhh hkk hd hfl hfr
    have B2 := B1.alloc B1.size (.cells #[.int .i64 x.Op, .int .i64 x.L.K, .string x.L.S, .int .i64 x.L.V.K, .int .i64 x.L.V.N, .string x.L.V.S, .int .i64 x.R.K, .string x.R.S, .int .i64 x.R.V.K, .int .i64 x.R.V.N, .string x.R.V.S] 34)
    have HX2 := hide (boxk_new w1 #[.int .i64 x.Op, .int .i64 x.L.K, .string x.L.S, .int .i64 x.L.V.K, .int .i64 x.L.V.N, .string x.L.V.S, .int .i64 x.R.K, .string x.R.S, .int .i64 x.R.V.K, .int .i64 x.R.V.N, .string x.R.V.S] 34)
    have r2 := rM.below (below_al w1 (.cells #[.int .i64 x.Op, .int .i64 x.L.K, .string x.L.S, .int .i64 x.L.V.K, .int .i64 x.L.V.N, .string x.L.V.S, .int .i64 x.R.K, .string x.R.S, .int .i64 x.R.V.K, .int .i64 x.R.V.N, .string x.R.V.S] 34))
    clear rM B1
    go_wp2_with fail
    generalize w1.alloc (.cells #[.int .i64 x.Op, .int .i64 x.L.K, .string x.L.S, .int .i64 x.L.V.K, .int .i64 x.L.V.N, .string x.L.V.S, .int .i64 x.R.K, .string x.R.S, .int .i64 x.R.V.K, .int .i64 x.R.V.N, .string x.R.V.S] 34) = w2 at B2 HX2 r2
    refine (HA.out x.L.K x.L.S x.L.V.K x.L.V.N x.L.V.S w2 HLL.out.2 r2).mono ?_
    rintro e w3 ⟨rfl, hb⟩
    have HX3 := hide (box_step HX2.out hb)
    have r3 := r2.below hb
    have B3 : Below w'.heap.size w' w3 := B2.trans (hb.mono B2.size)
    clear hb HX2 r2 B2
    rw [show argV x.L.K x.L.S ⟨x.L.V.K, x.L.V.N, x.L.V.S⟩ M = ov from HOv.out.symm, HE1.out]
    have B4 := B3.alloc B3.size (.cells #[.int .i64 v.K, .int .i64 v.N, .string v.S] 30)
    have HX4 := hide (box_old HX3.out (Array.getElem?_eq_some_iff.1 HX3.out).1 (.cells #[.int .i64 v.K, .int .i64 v.N, .string v.S] 30))
    have r4 := r3.below (below_al w3 (.cells #[.int .i64 v.K, .int .i64 v.N, .string v.S] 30))
    have hlt := (Array.getElem?_eq_some_iff.1 HX3.out).1
    have c6 := boxk_cell HX3.out 6 _ rfl
    have c7 := boxk_cell HX3.out 7 _ rfl
    have c8 := boxk_cell HX3.out 8 _ rfl
    have c9 := boxk_cell HX3.out 9 _ rfl
    have c10 := boxk_cell HX3.out 10 _ rfl
    go_wp2_with fail
    clear HX3 r3 B3 hlt c6 c7 c8 c9 c10
    generalize w3.alloc (.cells #[.int .i64 v.K, .int .i64 v.N, .string v.S] 30) = w4 at B4 HX4 r4
    refine (HA.out x.R.K x.R.S x.R.V.K x.R.V.N x.R.V.S w4 HLR.out.2 r4).mono ?_
    rintro e w5 ⟨rfl, hb⟩
    have HX5 := hide (box_step HX4.out hb)
    have r5 := r4.below hb
    have B5 : Below w'.heap.size w' w5 := B4.trans (hb.mono B4.size)
    clear hb HX4 r4 B4
    rw [show argV x.R.K x.R.S ⟨x.R.V.K, x.R.V.N, x.R.V.S⟩ M = ou from HOu.out.symm, HE2.out]
    have B6 := B5.alloc B5.size (.cells #[.int .i64 u.K, .int .i64 u.N, .string u.S] 30)
    have HX6 := hide (box_old HX5.out (Array.getElem?_eq_some_iff.1 HX5.out).1 (.cells #[.int .i64 u.K, .int .i64 u.N, .string u.S] 30))
    have r6 := r5.below (below_al w5 (.cells #[.int .i64 u.K, .int .i64 u.N, .string u.S] 30))
    have hlt := (Array.getElem?_eq_some_iff.1 HX5.out).1
    have c1 := boxk_cell HX5.out 1 _ rfl
    have c2 := boxk_cell HX5.out 2 _ rfl
    have c3 := boxk_cell HX5.out 3 _ rfl
    have c4 := boxk_cell HX5.out 4 _ rfl
    have c5 := boxk_cell HX5.out 5 _ rfl
    have c6 := boxk_cell HX5.out 6 _ rfl
    have c7 := boxk_cell HX5.out 7 _ rfl
    have c8 := boxk_cell HX5.out 8 _ rfl
    have c9 := boxk_cell HX5.out 9 _ rfl
    have c10 := boxk_cell HX5.out 10 _ rfl
    go_wp2_with fail
    clear HX5 r5 B5 hlt c1 c2 c3 c4 c5 c6 c7 c8 c9 c10
    generalize w5.alloc (.cells #[.int .i64 u.K, .int .i64 u.N, .string u.S] 30) = w6 at B6 HX6 r6
    refine (HI.out 1 x.L x.R w6 HLL.out HLR.out r6).mono ?_
    rintro e w7 ⟨rfl, hb⟩
    have HX7 := hide (box_step HX6.out hb)
    have r7 := r6.below hb
    have B7 : Below w'.heap.size w' w7 := B6.trans (hb.mono B6.size)
    rw [← HOv.out, ← HOu.out, ← Hss.out]
    clear hb HX6 r6 B6
    have c1 := boxk_cell HX7.out 1 _ rfl
    have c2 := boxk_cell HX7.out 2 _ rfl
    have c3 := boxk_cell HX7.out 3 _ rfl
    have c4 := boxk_cell HX7.out 4 _ rfl
    have c5 := boxk_cell HX7.out 5 _ rfl
    have c6 := boxk_cell HX7.out 6 _ rfl
    have c7 := boxk_cell HX7.out 7 _ rfl
    have c8 := boxk_cell HX7.out 8 _ rfl
    have c9 := boxk_cell HX7.out 9 _ rfl
    have c10 := boxk_cell HX7.out 10 _ rfl
    go_wp2_with fail
    refine (HI.out 2 x.L x.R w7 HLL.out HLR.out r7).mono ?_
    rintro e w8 ⟨rfl, hb⟩
    have HX8 := hide (box_step HX7.out hb)
    have r8 := r7.below hb
    have B8 : Below w'.heap.size w' w8 := B7.trans (hb.mono B7.size)
    rw [← HOv.out, ← HOu.out, ← Hoo.out]
    clear hb HX7 r7 B7 c1 c2 c3 c4 c5 c6 c7 c8 c9 c10
    have c1 := boxk_cell HX8.out 1 _ rfl
    have c2 := boxk_cell HX8.out 2 _ rfl
    have c3 := boxk_cell HX8.out 3 _ rfl
    have c4 := boxk_cell HX8.out 4 _ rfl
    have c5 := boxk_cell HX8.out 5 _ rfl
    have c6 := boxk_cell HX8.out 6 _ rfl
    have c7 := boxk_cell HX8.out 7 _ rfl
    have c8 := boxk_cell HX8.out 8 _ rfl
    have c9 := boxk_cell HX8.out 9 _ rfl
    have c10 := boxk_cell HX8.out 10 _ rfl
    go_wp2_with fail
    refine (HI.out 3 x.L x.R w8 HLL.out HLR.out r8).mono ?_
    rintro e w9 ⟨rfl, hb⟩
    have HX9 := hide (box_step HX8.out hb)
    have r9 := r8.below hb
    have B9 : Below w'.heap.size w' w9 := B8.trans (hb.mono B8.size)
    rw [← HOv.out, ← HOu.out, ← Hll.out]
    clear hb HX8 r8 B8 c1 c2 c3 c4 c5 c6 c7 c8 c9 c10
    have c1 := boxk_cell HX9.out 1 _ rfl
    have c2 := boxk_cell HX9.out 2 _ rfl
    have c3 := boxk_cell HX9.out 3 _ rfl
    have c4 := boxk_cell HX9.out 4 _ rfl
    have c5 := boxk_cell HX9.out 5 _ rfl
    have c6 := boxk_cell HX9.out 6 _ rfl
    have c7 := boxk_cell HX9.out 7 _ rfl
    have c8 := boxk_cell HX9.out 8 _ rfl
    have c9 := boxk_cell HX9.out 9 _ rfl
    have c10 := boxk_cell HX9.out 10 _ rfl
    go_wp2_with fail
    refine (HI.out 3 x.R x.L w9 HLR.out HLL.out r9).mono ?_
    rintro e w10 ⟨rfl, hb⟩
    have HX10 := hide (box_step HX9.out hb)
    have r10 := r9.below hb
    have B10 : Below w'.heap.size w' w10 := B9.trans (hb.mono B9.size)
    rw [← HOu.out, ← HOv.out, ← Hmm.out]
    clear hb HX9 r9 B9 c1 c2 c3 c4 c5 c6 c7 c8 c9 c10
    have c1 := boxk_cell HX10.out 1 _ rfl
    have c2 := boxk_cell HX10.out 2 _ rfl
    have c3 := boxk_cell HX10.out 3 _ rfl
    have c4 := boxk_cell HX10.out 4 _ rfl
    have c5 := boxk_cell HX10.out 5 _ rfl
    have c6 := boxk_cell HX10.out 6 _ rfl
    have c7 := boxk_cell HX10.out 7 _ rfl
    have c8 := boxk_cell HX10.out 8 _ rfl
    have c9 := boxk_cell HX10.out 9 _ rfl
    have c10 := boxk_cell HX10.out 10 _ rfl
    have c0 := boxk_cell HX10.out 0 _ rfl
    have khh : (hh != hh) = false := by simp
    have kkk : (kk != kk) = false := by simp
    have HC1 : Hid (∀ W : World, RdBind W (some ⟨g, 0, none⟩) M → Calls Try.prog 21 #[.agg #[.int .i64 x.Op, .int .i64 x.L.K, .string x.L.S, .int .i64 x.L.V.K, .int .i64 x.L.V.N, .string x.L.V.S, .int .i64 x.R.K, .string x.R.S, .int .i64 x.R.V.K, .int .i64 x.R.V.N, .string x.R.V.S], .slice (some ⟨g, 0, none⟩) M.length c] W fun e w' => e = .returned (.bool hh) ∧ Below W.heap.size W w') := by
      intro W h
      rw [Hhh.out, HOv.out, HOu.out]
      exact HI.out x.Op x.L x.R W HLL.out HLR.out h
    have HC2 : Hid (∀ W : World, RdBind W (some ⟨g, 0, none⟩) M → Calls Try.prog 20 #[.agg #[.int .i64 x.Op, .int .i64 x.L.K, .string x.L.S, .int .i64 x.L.V.K, .int .i64 x.L.V.N, .string x.L.V.S, .int .i64 x.R.K, .string x.R.S, .int .i64 x.R.V.K, .int .i64 x.R.V.N, .string x.R.V.S], .slice (some ⟨g, 0, none⟩) M.length c] W fun e w' => e = .returned (.bool hh) ∧ Below W.heap.size W w') := by
      intro W h
      rw [Hhh.out, HOv.out, HOu.out]
      exact HSp.out x.Op x.L x.R W h
    have HC3 : Hid (∀ W : World, Calls Try.prog 11 #[.agg #[.int .i64 x.Op, .int .i64 x.L.K, .string x.L.S, .int .i64 x.L.V.K, .int .i64 x.L.V.N, .string x.L.V.S, .int .i64 x.R.K, .string x.R.S, .int .i64 x.R.V.K, .int .i64 x.R.V.N, .string x.R.V.S]] W fun e w' => e = .returned (.bool kk) ∧ Below W.heap.size W w') := by
      intro W
      rw [Hkk.out]
      exact HK1.out W
    have HC4 : Hid (∀ W : World, Calls Try.prog 9 #[.agg #[.int .i64 x.Op, .int .i64 x.L.K, .string x.L.S, .int .i64 x.L.V.K, .int .i64 x.L.V.N, .string x.L.V.S, .int .i64 x.R.K, .string x.R.S, .int .i64 x.R.V.K, .int .i64 x.R.V.N, .string x.R.V.S]] W fun e w' => e = .returned (.bool kk) ∧ Below W.heap.size W w') := by
      intro W
      rw [Hkk.out]
      exact HK2.out W
    have R0 := hide (show RdBind w10.drew (some ⟨g, 0, none⟩) M from r10.below ((Below.refl _ _).drew))
    have X0 := hide (show w10.drew.heap[w1.heap.size]? = _ from HX10.out)
    have BB := hide (show Below w'.heap.size w' w10.drew from B10.drew)
    clear HI HA HSp HK1 HK2 HOv HOu HE1 HE2 Hss Hoo Hll Hmm Hhh Hkk HX10 r10 B10
    go_wp2_with fail
    go_region_held3 (fun W => W.cell? ⟨w1.heap.size, 0, none⟩ = some (.int .i64 x.Op) ∧ W.cell? ⟨w1.heap.size, 1, none⟩ = some (.int .i64 x.L.K) ∧ W.cell? ⟨w1.heap.size, 2, none⟩ = some (.string x.L.S) ∧ W.cell? ⟨w1.heap.size, 3, none⟩ = some (.int .i64 x.L.V.K) ∧ W.cell? ⟨w1.heap.size, 4, none⟩ = some (.int .i64 x.L.V.N) ∧ W.cell? ⟨w1.heap.size, 5, none⟩ = some (.string x.L.V.S) ∧ W.cell? ⟨w1.heap.size, 6, none⟩ = some (.int .i64 x.R.K) ∧ W.cell? ⟨w1.heap.size, 7, none⟩ = some (.string x.R.S) ∧ W.cell? ⟨w1.heap.size, 8, none⟩ = some (.int .i64 x.R.V.K) ∧ W.cell? ⟨w1.heap.size, 9, none⟩ = some (.int .i64 x.R.V.N) ∧ W.cell? ⟨w1.heap.size, 10, none⟩ = some (.string x.R.V.S)) (first | exact cells11 X0.out | exact cells11 (box_step X0.out b1) | exact cells11 (box_step (box_step X0.out b1) b2) | exact cells11 (box_step (box_step (box_step X0.out b1) b2) b3) | exact cells11 (box_step (box_step (box_step (box_step X0.out b1) b2) b3) b4))
      (first | (go_at_call 21; refine (HC1.out _ ?_).mono ?_; (with_reducible exact R0.out); rintro e u1 ⟨rfl, b1⟩) | (go_at_call 20; refine (HC2.out _ ?_).mono ?_; (with_reducible exact R0.out.below b1); rintro e u2 ⟨rfl, b2⟩) | (go_at_call 11; refine (HC3.out _).mono ?_; rintro e u3 ⟨rfl, b3⟩) | (go_at_call 9; refine (HC4.out _).mono ?_; rintro e u4 ⟨rfl, b4⟩))
    all_goals
      have BE : Below w'.heap.size w' u4 := (((BB.out.trans (b1.mono BB.out.size)).trans (b2.mono (BB.out.trans (b1.mono BB.out.size)).size)).trans (b3.mono ((BB.out.trans (b1.mono BB.out.size)).trans (b2.mono (BB.out.trans (b1.mono BB.out.size)).size)).size)).trans (b4.mono (((BB.out.trans (b1.mono BB.out.size)).trans (b2.mono (BB.out.trans (b1.mono BB.out.size)).size)).trans (b3.mono ((BB.out.trans (b1.mono BB.out.size)).trans (b2.mono (BB.out.trans (b1.mono BB.out.size)).size)).size)).size)
      clear b1 b2 b3 b4 X0 R0 BB HC1 HC2 HC3 HC4
      rcases H4.out with ⟨rfl, rfl, rfl, rfl, rfl⟩ | ⟨rfl, rfl, rfl, rfl, rfl, rfl⟩ | ⟨rfl, rfl, rfl, rfl, rfl, rfl⟩ | ⟨rfl, rfl, rfl, rfl, rfl, rfl⟩ | ⟨rfl, rfl, rfl, rfl, rfl, rfl⟩
      all_goals
        go_wp2
        go_ret
        exact ⟨rfl, BE⟩

theorem walk (a0 : Option Addr) (len0 cap0 : Nat) (z0 : List Int) (w : World) (w0 : IsRow .u8 w a0 len0 cap0 z0) :
    Calls Try.prog 7 #[.slice a0 len0 cap0] w fun e w' => e = .returned (.bool true) ∧ Below w.heap.size w w' := by
  obtain ⟨bs, hl, hr⟩ := rd_row w0
  have hm : len0 ≤ maxLen := isRow_len w0
  subst hl
  exact law a0 cap0 bs w hr hm

theorem own : ownKnob Try.prog.godebug = none := by kernel_rfl
theorem laidOut : laidOutB Try.prog = true := by kernel_rfl

set_option maxRecDepth 100000 in
theorem lifted (os : Os) (started : os.Started) (H : Type) (enc : TypeId × Value → H) :
    ReturnsInHanded {} Try.checked os 7 .any (Rows.fnCondsSpec.pre6 enc Try.prog Try.f7 Rows.fnCondsRow.domain false) (Rows.fnCondsSpec.post enc Try.prog Try.f7 false true false false) := by
  refine returnsInHanded_of_change (C := Try.checked) own started (by kernel_rfl) Try.func7
    (ChangeSpec.witness6 (enc := enc) (C := Try.checked) false ⟨#[], #[.slice none 0 0], []⟩ 8 (by kernel_rfl) (by kernel_rfl) (by kernel_rfl) (by kernel_rfl)) ?_
  intro W base args ds gs before hval0 hW hcnd _
  have hval : ∀ (j : Nat) t v, Try.f7.params[j]? = some t → args[j]? = some v → Value.okWide Try.prog W .any base t v := hval0
  have hW' := hW
  obtain ⟨p, q, hA0, hV, rfl, hfz, hnd⟩ := hW
  have hA : DataW.TrodAll enc Try.prog W 0 (fun _ => true) true Try.f7.params.toList args.toList ds p := hA0
  rw [Try.params7] at hA hval
  obtain ⟨v0, vs0, d0, ds0, p0, q0, hargs, rfl, rfl, h0, r0⟩ := trodAll_cons hA
  obtain ⟨rfl, rfl, rfl⟩ := trodAll_nil r0
  obtain rfl : args = #[v0] := by cases args; simp_all
  obtain ⟨rfl, rfl⟩ := trodVars_none hV
  obtain ⟨a0, len0, cap0, rfl⟩ := okWide_slice Try.underlying57 (hval 0 57 v0 rfl rfl)
  have k0 := h0
  have lt0 : ∀ x ∈ p0, x.block < W.heap.size := by obtain ⟨m, hm⟩ := k0; exact DataW.trod_lt m _ _ _ hm
  obtain ⟨z0, w0⟩ : ∃ zs, IsRow .u8 W a0 len0 cap0 zs := by
    obtain ⟨fuel, hf⟩ := h0
    rcases open_ints Try.underlying57 Try.underlying5 (by kernel_rfl) hf with ⟨hcs, _⟩ | ⟨x, l, c, zs, hcs, _, hl, hm, hz, _, hcell, hwz⟩
    · simp [Value.cells] at hcs
      obtain ⟨rfl, rfl, rfl⟩ := hcs
      exact ⟨[], .inl ⟨rfl, rfl, rfl, rfl⟩⟩
    · simp [Value.cells] at hcs
      obtain ⟨rfl, rfl, rfl⟩ := hcs
      exact ⟨zs, .inr ⟨_, rfl, hl, hm, by simpa using hz, hcell, hwz⟩⟩
  clear hA0 hval0
  refine (walk a0 len0 cap0 z0 W w0).mono fun e W' ⟨he, bel⟩ => ?_
  subst he
  exact ⟨_, rfl, _, _, _, [], _, [], hW', trodAll_mk1 (shut_bool Try.underlying4 _), (trodAll_cons_mk (Below.trod laidOut (by kernel_rfl) (of_decide_eq_true (by kernel_rfl)) k0 bel lt0) trodAll_mk0), rfl, bel.frame _, fun h => by cases h⟩

theorem over : Rows.fnCondsRow.holds Try.pinned (OpenSpec.ofChange Rows.fnCondsSpec) :=
  OpenClaim.holds_of_wide 7 Try.f7 rfl rfl rfl rfl rfl rfl rfl ⟨rfl, rfl, rfl, rfl, rfl⟩ rfl rfl rfl rfl rfl (by kernel_rfl) Try.func7 (by kernel_rfl)
    (of_decide_eq_true (by kernel_rfl)) (by unfold Func.isWrapper; first | (rw [if_pos (by decide +kernel)]; kernel_rfl) | (rw [if_neg (by decide +kernel)]; exact ⟨rfl, rfl⟩))
    (fun os started H enc _ => lifted os started H enc)
end Go.Proofs.Ytlaoiagpoomldaa.LawConds
namespace Go.Proofs.Ytlaoiagpoomldaa
theorem fnConds_holds : Rows.FnCondsSaid := LawConds.over
#print axioms fnConds_holds
end Go.Proofs.Ytlaoiagpoomldaa
