/-
  A definition's text (defT), plainly; what the tested DefText answers.
-/
import Derived.Test.YtcfhpcbkdpgboaaGreatDoorJoined4
import Derived.Test.YtcfhpcbkdpgboaaGreatDoorJRuleTI
namespace Go.Proofs.YtcfhpcbkdpgboaaGreatDoor
open Go.RowKit
set_option linter.unusedVariables false

theorem join_empty (L : List (List UInt8)) : Lib.join L [] = L.flatten := by
  cases L with
  | nil => rfl
  | cons x r => rw [Lib.join_cons, Lib.joinTail]; simp
/-- texts, one behind the other -/
def catT (ts : List ByteArray) : ByteArray := ⟨(Lib.join (ts.map (·.data.toList)) (ByteArray.mk #[]).data.toList).toArray⟩
theorem catT_nil : catT [] = ⟨#[]⟩ := rfl
theorem catT_snoc (ts : List ByteArray) (t : ByteArray) : catT (ts ++ [t]) = catT ts ++ t := by
  unfold catT
  rw [show (ByteArray.mk #[]).data.toList = [] from rfl, join_empty, join_empty]
  apply ByteArray.ext
  simp
theorem flat_len {M : Nat} : ∀ (ts : List ByteArray), (∀ t ∈ ts, t.size ≤ M) → ((ts.map (·.data.toList)).flatten).length ≤ M * ts.length
  | [], _ => by simp
  | x :: r, h => by
    have h1 := flat_len r (fun t ht => h t (List.mem_cons_of_mem _ ht))
    have h2 := h x List.mem_cons_self
    have h3 : x.data.toList.length = x.size := by rw [Array.length_toList]; rfl
    rw [List.map_cons, List.flatten_cons, List.length_append, List.length_cons, Nat.mul_add, Nat.mul_one]
    omega
theorem catT_size {M : Nat} (ts : List ByteArray) (h : ∀ t ∈ ts, t.size ≤ M) : (catT ts).size ≤ M * ts.length := by
  have h1 := flat_len ts h
  rw [← join_empty] at h1
  exact h1
def RE.txt (x : RE) : ByteArray := ruleT x
theorem ruleT_size (x : RE) : x.txt.size ≤ 8000 := by
  unfold RE.txt
  cases hv : ruleB x
  · rw [ruleT_no hv]; exact Nat.zero_le _
  · obtain ⟨h1, h2, h3, h4, h5⟩ := rule_open hv
    obtain ⟨z1, z2, z3, z4⟩ := joins_size x hv
    rw [ruleT_yes hv]
    unfold ruleW headT
    have e1 : (ByteArray.mk #[114, 117, 108, 101, 32]).size = 5 := rfl
    have e2 : (ByteArray.mk #[32]).size = 1 := rfl
    have e3 : (ByteArray.mk #[58, 32]).size = 2 := rfl
    have e4 : (ByteArray.mk #[32, 43, 32]).size = 3 := rfl
    have e5 : (ByteArray.mk #[32, 45, 62, 32]).size = 4 := rfl
    have e6 : (ByteArray.mk #[46, 10]).size = 2 := rfl
    have e7 : (ByteArray.mk #[]).size = 0 := rfl
    split <;> simp only [ByteArray.size_append, e1, e2, e3, e4, e5, e6, e7] <;> omega
theorem rtxt_pl {K J : List RE} (h : K.map RE.pl = J.map RE.pl) : K.map RE.txt = J.map RE.txt := map_ext (map_len h) (fun i hi => ruleT_pl (map_at h hi))
/-- a definition's text -/
def defW (x : DE) : ByteArray := ⟨#[100, 101, 102, 32]⟩ ++ x.nm ++ ⟨#[46, 10]⟩ ++ catT (x.R.map RE.txt)
def defT (x : DE) : ByteArray := if defB x = true then defW x else ⟨#[]⟩
theorem defT_no {x : DE} (h : defB x = false) : defT x = ⟨#[]⟩ := by unfold defT; rw [if_neg (by rw [h]; simp)]
theorem defT_yes {x : DE} (h : defB x = true) : defT x = defW x := by unfold defT; rw [if_pos h]
theorem defT_pl {x y : DE} (h : y.pl = x.pl) (hx : x.R.length = x.nR) (hy : y.R.length = y.nR) : defT y = defT x := by
  obtain ⟨e1, e2⟩ := DE.pl_inj h
  unfold defT defW
  rw [defB_pl h hx hy, e1, rtxt_pl e2]
/-- what a definition that is right has -/
theorem def_open {x : DE} (h : defB x = true) : x.nm.size ≤ 12 ∧ (1 ≤ x.nR ∧ x.nR ≤ 12) ∧ x.R.all ruleB = true ∧ firstB x.R = true := by
  unfold defB at h
  simp only [Bool.and_eq_true, inB_iff] at h
  obtain ⟨⟨⟨h1, h2⟩, h3⟩, h4⟩ := h
  exact ⟨nameP_size h1, by omega, h3, h4⟩

set_option maxRecDepth 100000 in
set_option maxHeartbeats 3200000 in
theorem joinR_any (a : Option Addr) (cap n : Nat) (L : List RE) (w : World) (hz : L.length = n) (hr : RdRuleS w a L) (hs : ∀ v ∈ L, v.small) (hc : ∀ v ∈ L, v.nP ≤ v.cP) (hm : n ≤ 12) (ht : Tab w) (hw : Wrd w) :
    Calls Tryz.prog 14 #[.slice a n cap, .func (.func 15) #[] #[], .string ⟨#[]⟩] w fun e w' =>
      e = .returned (.string (catT (L.map RE.txt))) ∧ Below w.heap.size w w' := by
  obtain ⟨i0, hi, hz0, hz1, hz2⟩ := info_parts infoStr
  have HTab := hide ht
  have HWd := hide hw
  have HS := hide hs
  have HC := hide hc
  have HN := hide hz.symm
  have HL : Hid ((Lib.join ((L.map RE.txt).map (·.data.toList)) (ByteArray.mk #[]).data.toList).length ≤ 140737488355328) := by
    have h := catT_size (M := 8000) (L.map RE.txt) (fun t ht => by obtain ⟨p, _, rfl⟩ := List.mem_map.1 ht; exact ruleT_size p)
    rw [List.length_map, hz] at h
    have h3 : (Lib.join ((L.map RE.txt).map (·.data.toList)) (ByteArray.mk #[]).data.toList).length ≤ 8000 * n := h
    exact Nat.le_trans h3 (by omega)
  have HJ : Hid (catT (L.map RE.txt) = ⟨(Lib.join ((L.map RE.txt).map (·.data.toList)) (ByteArray.mk #[]).data.toList).toArray⟩) := rfl
  obtain ⟨tx, htx⟩ : ∃ tx, tx = catT (L.map RE.txt) := ⟨_, rfl⟩
  rw [← htx] at HJ ⊢
  clear ht hs hz htx hw hc
  have hz3 : (i0.bytes * n) = 16 * n := by rw [hz2]
  go_enter Tryz.func14, Tryz.ntmps14
  go_wp2_with (at_make; refine wpList_make_own _ rfl _ _ 72 rfl w.heap.size 9 i0 (.string ⟨#[]⟩) 1 Tryz.underlying72 hi hz0 hz1 _ _ _ n rfl rfl (by omega) ?b2 ?b3 (Nat.le_refl _) ?_)
  case b2 => (try rw [hz2]); omega
  case b3 => unfold maxLen; omega
  intro w2 ho2 hg2
  have b2 : Below w.heap.size w w2 := below_gn' hg2
  clear hg2
  go_wp2
  go_loopw [7, 15] (fun v i wr => ∃ (k g c : Nat), k ≤ n ∧ i = .int .i64 k ∧ v = .slice (some ⟨g, 0, none⟩) k c ∧ wr.ownsRow w.heap.size 9 1 (.slice (some ⟨g, 0, none⟩) k c) k (valsS ((L.take k).map RE.txt)) ∧ Below w.heap.size w wr) (fun _ i _ => n - (intOf i).toNat)
  case atStart => exact ⟨0, w.heap.size, n, Nat.zero_le _, rfl, rfl, by rw [List.take_zero]; exact ho2, b2⟩
  case round =>
    clear ho2 b2
    obtain ⟨k, g, c, hk, rfl, rfl, hown, hbel⟩ := hrel
    by_cases hlt : k < n
    · have hlL : k < L.length := by rw [← HN.out]; exact hlt
      obtain ⟨b, off, hab, hbw, hc⟩ := (hr.below hbel).cells (by omega)
      obtain ⟨c0, c1, c2, c3, c4, hin⟩ := hc k hlL
      clear hc
      subst hab
      have HTake : Hid (valsS ((L.take k).map RE.txt) ++ [.string (eAt L k).txt] = valsS ((L.take (k + 1)).map RE.txt)) := by unfold Hid; rw [valsS_snoc, List.take_succ_eq_append_getElem hlL, eAt_in hlL, List.map_append]; rfl
      have hS := HS.out _ (eAt_mem hlL)
      have hCp := HC.out _ (eAt_mem hlL)
      have HIn := hide hin
      clear hin
      generalize eAt L k = y at c0 c1 c2 c3 c4 HTake hS HIn hCp
      have bA : Below w.heap.size w (wr.alloc (.cells #[.string y.nm, .int .i64 y.sal, .slice y.aP y.nP y.cP, .slice y.aC y.nC y.cC, .slice y.aA y.nA y.cA] 40)) := hbel.alloc hbel.size _
      have bX := below_al wr (.cells #[.string y.nm, .int .i64 y.sal, .slice y.aP y.nP y.cP, .slice y.aC y.nC y.cC, .slice y.aA y.nA y.cA] 40)
      have hoA := hown.alloc (.cells #[.string y.nm, .int .i64 y.sal, .slice y.aP y.nP y.cP, .slice y.aC y.nC y.cC, .slice y.aA y.nA y.cA] 40)
      have HTA : Hid (Tab (wr.alloc (.cells #[.string y.nm, .int .i64 y.sal, .slice y.aP y.nP y.cP, .slice y.aC y.nC y.cC, .slice y.aA y.nA y.cA] 40))) := HTab.out.later bA (Nat.le_refl _)
      have HWA : Hid (Wrd (wr.alloc (.cells #[.string y.nm, .int .i64 y.sal, .slice y.aP y.nP y.cP, .slice y.aC y.nC y.cC, .slice y.aA y.nA y.cA] 40))) := (HWd.out.later hbel).later bX
      go_wp2_with fail
      refine (implRuleText_any y _ (HIn.out.below bX) hS hCp HTA.out HWA.out).mono ?_
      rintro e w3 ⟨rfl, hb3⟩
      rw [show ruleT y = y.txt from rfl]
      generalize y.txt = x at HTake
      have bel3 : Below w.heap.size w w3 := bA.trans (hb3.mono bA.size)
      have HO4 := hide ((ownsRow_below' hoA hb3).alloc (.cells #[.string x] 9))
      have HB4 := hide (bel3.alloc bel3.size (.cells #[.string x] 9))
      have HSrc := hide (srcS w3 x)
      clear hb3 hbel hown hoA bA bX HTA HWA c0 c1 c2 c3 c4 bel3
      go_wp2_with (at_builtin; refine wpList_append_lies _ rfl (.tmp 19) (.tmp 23) 72 rfl w.heap.size 9 i0 (.string ⟨#[]⟩) 1 16 Tryz.underlying72 hi hz0 hz1 hz2 rfl (by omega) (.slice (some ⟨g, 0, none⟩) k c) k (valsS ((L.take k).map RE.txt)) rfl HO4.out ⟨w3.heap.size, 0, none⟩ 1 1 [.string x] ?hx rfl HSrc.out (oneS x) (by omega) (by unfold maxLen; omega) (by omega) HB4.out.size _ rfl ?_)
      case hx => simp [Act.eval]
      intro g5 c5 w5 ho5 hg5 hat5 hlt5
      have HO5 : Hid (w5.ownsRow w.heap.size 9 1 (.slice (some ⟨g5, 0, none⟩) (k + 1) c5) (k + 1) (valsS ((L.take (k + 1)).map RE.txt))) := by
        unfold Hid
        rw [← HTake.out, List.map_take]
        exact ho5
      have HB5 := hide (HB4.out.grown hg5 HB4.out.size (fun k hk => (HO4.out.lt k hk).1))
      clear ho5 hg5 hat5 hlt5 HO4 HSrc HB4
      go_wp2
      go_roundw
      case rel => exact ⟨k + 1, g5, c5, by omega, by go_num, rfl, HO5.out, HB5.out⟩
      case measure => simp [intOf]; omega
    · obtain rfl : k = n := by omega
      have HO : Hid (wr.ownsRow w.heap.size 9 1 (.slice (some ⟨g, 0, none⟩) k c) k (valsS (L.map RE.txt))) := by
        have := hown
        rw [HN.out, List.take_length, ← HN.out] at this
        exact this
      have hcs := own_txsT HO.out
      obtain ⟨hgl, hkc⟩ := own_ltA HO.out
      have htl : (L.map RE.txt).length = k := by rw [List.length_map, HN.out]
      have hjoin := Tryz.strings_Join g 0 c (L.map RE.txt) ⟨#[]⟩ wr hcs hgl (by rw [htl]; omega) (by rw [htl]; exact hkc) HL.out
      rw [htl, ← HJ.out] at hjoin
      clear hown HO
      go_wp2_with fail
      refine hjoin.mono ?_
      rintro e w6 ⟨rfl, hb6⟩
      have B6 : Below w.heap.size w w6 := hbel.trans (hb6.mono hbel.size)
      go_wp2
      go_ret
      exact ⟨rfl, B6⟩

set_option maxRecDepth 100000 in
set_option maxHeartbeats 3200000 in
theorem implDefText_any (x : DE) (w : World) (hr : RdDef w x) (hs : x.small) (hc : ∀ r ∈ x.R, r.nP ≤ r.cP) (ht : Tab w) (hw : Wrd w) :
    Calls Tryz.prog 7 #[.agg #[.string x.nm, .slice x.aR x.nR x.cR]] w fun e w' => e = .returned (.string (defT x)) ∧ Below w.heap.size w w' := by
  have b0 := below_al w (.cells #[.string x.nm, .slice x.aR x.nR x.cR] 29)
  have hA0 := boxk_new w #[.string x.nm, .slice x.aR x.nR x.cR] 29
  have HOk := hide (implDefOk_any x (w.alloc (.cells #[.string x.nm, .slice x.aR x.nR x.cR] 29)) (hr.below b0) hs hc)
  cases hv : defB x
  · rw [defT_no hv]
    rw [hv] at HOk
    go_enter Tryz.func7, Tryz.ntmps7
    go_wp2_with fail
    refine HOk.out.mono ?_
    rintro e w1 ⟨rfl, hb⟩
    have hB : Below w.heap.size w w1 := b0.trans (hb.mono b0.size)
    clear hb HOk hA0 b0
    go_wp2
    go_ret
    exact ⟨rfl, hB⟩
  · obtain ⟨h1, h2, h3, h4⟩ := def_open hv
    rw [hv] at HOk
    have HT := hide (defT_yes hv)
    obtain ⟨tx, htx⟩ : ∃ tx, tx = defT x := ⟨_, rfl⟩
    rw [← htx] at HT ⊢
    have hcs := catT_size (M := 8000) (x.R.map RE.txt) (fun t ht => by obtain ⟨p, _, rfl⟩ := List.mem_map.1 ht; exact ruleT_size p)
    rw [List.length_map, hr.nr] at hcs
    have hn12 : x.nR ≤ 12 := h2.2
    clear htx hv h3 h4
    obtain ⟨dn, aR, n, cR, R⟩ := x
    have hz : R.length = n := hr.nr
    have hrr : RdRuleS w aR R := hr.r
    have HS := hide hs.2
    have HC := hide hc
    simp only at h1 hcs hn12 HS HC hA0 b0 HOk ⊢
    obtain ⟨yR, hyR⟩ : ∃ y, y = catT (R.map RE.txt) := ⟨_, rfl⟩
    have HW : Hid (tx = ⟨#[100, 101, 102, 32]⟩ ++ dn ++ ⟨#[46, 10]⟩ ++ yR) := by unfold Hid; rw [HT.out, hyR]; rfl
    rw [← hyR] at hcs
    have HTx := hide hyR
    have z1 : yR.size ≤ 96000 := by omega
    clear hyR HT hcs hs hc hr
    go_enter Tryz.func7, Tryz.ntmps7
    go_wp2_with fail
    refine HOk.out.mono ?_
    rintro e w1 ⟨rfl, hb⟩
    have hB1 : Below w.heap.size w w1 := b0.trans (hb.mono b0.size)
    have hA1 := box_step hA0 hb
    clear hb HOk hA0 b0
    go_wp2
    have hA : w1.drew.heap[w.heap.size]? = some (.cells #[.string dn, .slice aR n cR] 29 (0, 0)) := hA1
    have hB := hB1.drew
    have hR2 : RdRuleS w1.drew aR R := (hrr.below hB1).heap rfl
    have HTab : Hid (Tab w1.drew) := ht.later hB (Nat.le_refl _)
    have HWd : Hid (Wrd w1.drew) := hw.later hB
    have nn1 : ¬ 9223372036854775807 < 4 + dn.size := by omega
    have nm1 : 4 + dn.size ≤ 9223372036854775807 := by omega
    have nn2 : ¬ 9223372036854775807 < 4 + dn.size + 2 := by omega
    have nm2 : 4 + dn.size + 2 ≤ 9223372036854775807 := by omega
    have nn3 : ¬ 9223372036854775807 < 4 + dn.size + 2 + yR.size := by omega
    have nm3 : 4 + dn.size + 2 + yR.size ≤ 9223372036854775807 := by omega
    clear hA1 hB1 hrr
    refine wp_region_held_drew (S := fun W => W.cell? ⟨w.heap.size, 0, none⟩ = some (.string dn) ∧ W.cell? ⟨w.heap.size, 1, none⟩ = some (.slice aR n cR)) (by kernel_rfl) ⟨boxk_cell hA 0 _ rfl, boxk_cell hA 1 _ rfl⟩ (fun hHeld => ?_)
    refine wpAnyH_take (i := 0) (oi := Oper.mk (some 6) _ _ _ _ _) (v := ?v1) rfl (by kernel_rfl) (by kernel_rfl) (by kernel_rfl) (fun _ _ _ h => h) (Or.inl ⟨by rfl, ?y1⟩) hHeld ?r1
    case y1 => (intro W hSW; obtain ⟨q0, q1⟩ := hSW; go_simp; try with_reducible rfl)
    simp only [Act.put, List.setIfInBounds_toArray, List.set_cons_zero, List.set_cons_succ]
    refine wpAnyH_take (i := 1) (oi := Oper.mk (some 7) _ _ _ _ _) (v := ?v2) rfl (by kernel_rfl) (by kernel_rfl) (by kernel_rfl) (fun _ _ _ h => h) (Or.inl ⟨by rfl, ?y2⟩) hHeld ?r2
    case y2 => (intro W hSW; obtain ⟨q0, q1⟩ := hSW; go_simp; try with_reducible rfl)
    simp only [Act.put, List.setIfInBounds_toArray, List.set_cons_zero, List.set_cons_succ]
    refine wpAnyH_take (i := 2) (oi := Oper.mk (some 8) _ _ _ _ _) (v := ?v3) rfl (by kernel_rfl) (by kernel_rfl) (by kernel_rfl) (fun _ _ _ h => h) (Or.inl ⟨by rfl, ?y3⟩) hHeld ?r3
    case y3 => (intro W hSW; obtain ⟨q0, q1⟩ := hSW; go_simp; try with_reducible rfl)
    simp only [Act.put, List.setIfInBounds_toArray, List.set_cons_zero, List.set_cons_succ]
    refine wpAnyH_take (i := 3) (oi := Oper.mk (some 9) _ _ _ _ _) (v := ?v4) rfl (by kernel_rfl) (by kernel_rfl) (by kernel_rfl) (fun _ _ _ h => h) (Or.inl ⟨by rfl, ?y4⟩) hHeld ?r4
    case y4 => (intro W hSW; obtain ⟨q0, q1⟩ := hSW; go_simp; try with_reducible rfl)
    simp only [Act.put, List.setIfInBounds_toArray, List.set_cons_zero, List.set_cons_succ]
    refine wpAnyH_take (i := 4) (oi := Oper.mk (some 10) _ _ _ _ _) (v := ?v5) rfl (by kernel_rfl) (by kernel_rfl) (by kernel_rfl) (fun _ _ _ h => h) (Or.inl ⟨by rfl, ?y5⟩) hHeld ?r5
    case y5 => (intro W hSW; obtain ⟨q0, q1⟩ := hSW; go_simp; try with_reducible rfl)
    simp only [Act.put, List.setIfInBounds_toArray, List.set_cons_zero, List.set_cons_succ]
    refine wpAnyH_take (i := 5) (oi := Oper.mk (some 11) _ _ _ _ _) (v := ?v6) rfl (by kernel_rfl) (by kernel_rfl) (by kernel_rfl) (fun _ _ _ h => h) (Or.inl ⟨by rfl, ?y6⟩) hHeld ?r6
    case y6 => (intro W hSW; obtain ⟨q0, q1⟩ := hSW; go_simp; try with_reducible rfl)
    simp only [Act.put, List.setIfInBounds_toArray, List.set_cons_zero, List.set_cons_succ]
    refine wpAnyH_ready (rs := [6]) (by kernel_rfl) (by simp) (AllReadyH.cons (o := Oper.mk (some 12) _ _ _ _ _) rfl (fun Kk hK => ?_) AllReadyH.nil)
    go_simp
    refine (joinR_any aR cR n R _ hz hR2 HS.out HC.out hn12 HTab.out HWd.out).mono ?_
    rintro e u1 ⟨rfl, hb⟩
    have B1 := hB.trans (hb.mono hB.size)
    have A1 := box_step hA hb
    rw [← HTx.out]
    clear hb
    refine hK.out _ _ ⟨boxk_cell A1 0 _ rfl, boxk_cell A1 1 _ rfl⟩ (fun hHeld => ?_)
    clear hK Kk
    refine wpAnyH_take (i := 7) (oi := Oper.mk (some 13) _ _ _ _ _) (v := ?v7) rfl (by kernel_rfl) (by kernel_rfl) (by kernel_rfl) (fun _ _ _ h => h) (Or.inl ⟨by rfl, ?y7⟩) hHeld ?r7
    case y7 => (intro W hSW; obtain ⟨q0, q1⟩ := hSW; go_simp; try with_reducible rfl)
    simp only [Act.put, List.setIfInBounds_toArray, List.set_cons_zero, List.set_cons_succ]
    refine wpAnyH_take (i := 8) (oi := Oper.mk (some 2) _ _ _ _ _) (v := ?v8) rfl (by kernel_rfl) (by kernel_rfl) (by kernel_rfl) (fun _ _ _ h => h) (Or.inl ⟨by rfl, ?y8⟩) hHeld ?r8
    case y8 => (intro W hSW; obtain ⟨q0, q1⟩ := hSW; go_simp; try with_reducible rfl)
    simp only [Act.put, List.setIfInBounds_toArray, List.set_cons_zero, List.set_cons_succ]
    refine wpAnyH_done (by kernel_rfl) ?_ _
    go_wp2
    go_ret
    exact ⟨by rw [HW.out]; rfl, B1⟩
end Go.Proofs.YtcfhpcbkdpgboaaGreatDoor
