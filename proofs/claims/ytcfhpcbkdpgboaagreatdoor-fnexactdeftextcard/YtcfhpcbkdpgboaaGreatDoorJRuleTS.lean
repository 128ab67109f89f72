/-
  What the model's RuleText answers: ruleT.
-/
import Derived.Test.YtcfhpcbkdpgboaaGreatDoorJoined4
import Derived.Test.YtcfhpcbkdpgboaaGreatDoorJRuleOkS
import Derived.Test.YtcfhpcbkdpgboaaGreatDoorJCondTS
import Derived.Test.YtcfhpcbkdpgboaaGreatDoorJActTS
namespace Go.Proofs.YtcfhpcbkdpgboaaGreatDoor
open Go.RowKit
set_option linter.unusedVariables false

theorem app_nil (s : ByteArray) : s ++ (⟨#[]⟩ : ByteArray) = s := by apply ByteArray.ext; simp
/-- the texts on the way: those of the first k, with 'lead' ahead of the first -/
def upTo (lead : ByteArray) (ts : List ByteArray) (k : Nat) : ByteArray := if k = 0 then ⟨#[]⟩ else lead ++ joinT (ts.take k)
theorem upTo_one (pre lead : ByteArray) {ts : List ByteArray} (h : 0 < ts.length) : pre ++ upTo lead ts 0 ++ lead ++ sAt ts 0 = pre ++ upTo lead ts (0 + 1) := by
  have e : joinT (ts.take (0 + 1)) = sAt ts 0 := by
    rw [List.take_succ_eq_append_getElem h, joinT_snoc, if_pos (by simp), sAt_in h]
  unfold upTo
  rw [if_pos rfl, if_neg (by omega), e, app_nil, ByteArray.append_assoc]
theorem upTo_more (pre lead : ByteArray) {ts : List ByteArray} {k : Nat} (h : k < ts.length) (hk : k ≠ 0) : pre ++ upTo lead ts k ++ ⟨#[44, 32]⟩ ++ sAt ts k = pre ++ upTo lead ts (k + 1) := by
  unfold upTo
  rw [if_neg hk, if_neg (by omega), List.take_succ_eq_append_getElem h, joinT_snoc, if_neg, sAt_in h]
  · simp only [ByteArray.append_assoc]
  · intro e
    have := congrArg List.length e
    rw [List.length_take] at this
    simp only [List.length_nil] at this
    omega
theorem upTo_size {lead : ByteArray} {ts : List ByteArray} {k : Nat} (h : ∀ t ∈ ts, t.size ≤ 400) (hk : k ≤ 6) (hl : lead.size ≤ 4) : (upTo lead ts k).size ≤ 2416 := by
  unfold upTo
  split
  · exact Nat.zero_le _
  · have h1 := joinT_size (M := 400) (ts.take k) (fun t ht => h t (List.mem_of_mem_take ht))
    rw [List.length_take] at h1
    rw [ByteArray.size_append]
    have : (400 + 2) * min k ts.length ≤ 402 * 6 := Nat.mul_le_mul_left _ (by omega)
    omega

set_option maxRecDepth 100000 in
set_option maxHeartbeats 12800000 in
theorem l9Text_any (x : RE) (w : World) (hr : RdRule w x) (hs : x.small) (hv : ruleB x = true) :
    Calls Tryz.prog 11 #[.agg #[.string x.nm, .int .i64 x.sal, .slice x.aP x.nP x.cP, .slice x.aC x.nC x.cC, .slice x.aA x.nA x.cA]] w fun e w' => e = .returned (.string (ruleW x)) ∧ Below w.heap.size w w' := by
  obtain ⟨hnm, hsal, hP, hC, hQ⟩ := rule_open hv
  have z2 := joinT_size (M := 400) (x.P.map PE.txt) (fun t ht => by obtain ⟨p, _, rfl⟩ := List.mem_map.1 ht; exact patT_size p)
  have z3 := joinT_size (M := 400) (x.C.map C11.txt) (fun t ht => by obtain ⟨p, _, rfl⟩ := List.mem_map.1 ht; exact condT_size p)
  have z4 := joinT_size (M := 400) (x.A.map QE.txt) (fun t ht => by obtain ⟨p, _, rfl⟩ := List.mem_map.1 ht; exact actT_size p)
  rw [List.length_map] at z2 z3 z4
  obtain ⟨s1, s2, s3, s4⟩ := hs
  have HNp := hide hr.np
  have HNc := hide hr.nc
  have HNa := hide hr.na
  have hnP : 1 ≤ x.nP ∧ x.nP ≤ 6 := by rw [← hr.np]; exact hP
  have hnC : x.nC ≤ 6 := by rw [← hr.nc]; exact hC
  have hnA : 1 ≤ x.nA ∧ x.nA ≤ 6 := by rw [← hr.na]; exact hQ
  have HSp := hide s2
  have HSc := hide s3
  have HSa := hide s4
  obtain ⟨tx, htx⟩ : ∃ tx, tx = ruleW x := ⟨_, rfl⟩
  have HW0 : Hid (tx = headT x.nm x.sal ++ joinT (x.P.map PE.txt) ++ (if x.C = [] then ⟨#[]⟩ else ⟨#[32, 43, 32]⟩ ++ joinT (x.C.map C11.txt)) ++ ⟨#[32, 45, 62, 32]⟩ ++ joinT (x.A.map QE.txt) ++ ⟨#[46, 10]⟩) := htx
  rw [← htx]
  clear htx s1 s2 s3 s4 hv
  have b0 := below_al w (.cells #[.string x.nm, .int .i64 x.sal, .slice x.aP x.nP x.cP, .slice x.aC x.nC x.cC, .slice x.aA x.nA x.cA] 40)
  have hA0 := boxk_new w #[.string x.nm, .int .i64 x.sal, .slice x.aP x.nP x.cP, .slice x.aC x.nC x.cC, .slice x.aA x.nA x.cA] 40
  have nn14 : ¬ 9223372036854775807 < 5 + x.nm.size := by omega
  have nm14 : 5 + x.nm.size ≤ 9223372036854775807 := by omega
  have nn15 : ¬ 9223372036854775807 < 5 + x.nm.size + 1 := by omega
  have nm15 : 5 + x.nm.size + 1 ≤ 9223372036854775807 := by omega
  have nk15 : ¬ 9223372036854775807 ≤ 5 + x.nm.size := by omega
  have nl15 : 5 + x.nm.size < 9223372036854775807 := by omega
  have hg : ∀ sn : ByteArray, sn.size ≤ 11 → (¬ 9223372036854775807 < 5 + x.nm.size + 1 + sn.size ∧ 5 + x.nm.size + 1 + sn.size ≤ 9223372036854775807 ∧ ¬ 9223372036854775807 < 5 + x.nm.size + 1 + sn.size + 2 ∧ 5 + x.nm.size + 1 + sn.size + 2 ≤ 9223372036854775807) := fun sn h => by omega
  have HG := hide hg
  clear hg
  go_enter Tryz.func11, Tryz.ntmps11
  go_wp2
  generalize w.alloc (.cells #[.string x.nm, .int .i64 x.sal, .slice x.aP x.nP x.cP, .slice x.aC x.nC x.cC, .slice x.aA x.nA x.cA] 40) = w0 at hA0 b0 ⊢
  have hA : w0.drew.heap[w.heap.size]? = some (.cells #[.string x.nm, .int .i64 x.sal, .slice x.aP x.nP x.cP, .slice x.aC x.nC x.cC, .slice x.aA x.nA x.cA] 40 (0, 0)) := hA0
  have hB1 := b0.drew
  clear hA0 b0
  refine wp_region_held_drew (S := fun W => W.cell? ⟨w.heap.size, 0, none⟩ = some (.string x.nm) ∧ W.cell? ⟨w.heap.size, 1, none⟩ = some (.int .i64 x.sal) ∧ W.cell? ⟨w.heap.size, 2, none⟩ = some (.slice x.aP x.nP x.cP) ∧ W.cell? ⟨w.heap.size, 3, none⟩ = some (.slice x.aC x.nC x.cC) ∧ W.cell? ⟨w.heap.size, 4, none⟩ = some (.slice x.aA x.nA x.cA)) (by kernel_rfl) ⟨boxk_cell hA 0 _ rfl, boxk_cell hA 1 _ rfl, boxk_cell hA 2 _ rfl, boxk_cell hA 3 _ rfl, boxk_cell hA 4 _ rfl⟩ (fun hHeld => ?_)
  refine wpAnyH_take (i := 0) (oi := Oper.mk (some 7) _ _ _ _ _) (v := ?v13) rfl (by kernel_rfl) (by kernel_rfl) (by kernel_rfl) (fun _ _ _ h => h) (Or.inl ⟨by rfl, ?y13⟩) hHeld ?r13
  case y13 => (intro W hSW; obtain ⟨q0, q1, q2, q3, q4⟩ := hSW; go_simp; try with_reducible rfl)
  simp only [Act.put, List.setIfInBounds_toArray, List.set_cons_zero, List.set_cons_succ]
  refine wpAnyH_take (i := 1) (oi := Oper.mk (some 8) _ _ _ _ _) (v := ?v14) rfl (by kernel_rfl) (by kernel_rfl) (by kernel_rfl) (fun _ _ _ h => h) (Or.inl ⟨by rfl, ?y14⟩) hHeld ?r14
  case y14 => (intro W hSW; obtain ⟨q0, q1, q2, q3, q4⟩ := hSW; go_simp; try with_reducible rfl)
  simp only [Act.put, List.setIfInBounds_toArray, List.set_cons_zero, List.set_cons_succ]
  refine wpAnyH_take (i := 2) (oi := Oper.mk (some 9) _ _ _ _ _) (v := ?v15) rfl (by kernel_rfl) (by kernel_rfl) (by kernel_rfl) (fun _ _ _ h => h) (Or.inl ⟨by rfl, ?y15⟩) hHeld ?r15
  case y15 => (intro W hSW; obtain ⟨q0, q1, q2, q3, q4⟩ := hSW; go_simp; try with_reducible rfl)
  simp only [Act.put, List.setIfInBounds_toArray, List.set_cons_zero, List.set_cons_succ]
  refine wpAnyH_take (i := 3) (oi := Oper.mk (some 10) _ _ _ _ _) (v := ?v16) rfl (by kernel_rfl) (by kernel_rfl) (by kernel_rfl) (fun _ _ _ h => h) (Or.inl ⟨by rfl, ?y16⟩) hHeld ?r16
  case y16 => (intro W hSW; obtain ⟨q0, q1, q2, q3, q4⟩ := hSW; go_simp; try with_reducible rfl)
  simp only [Act.put, List.setIfInBounds_toArray, List.set_cons_zero, List.set_cons_succ]
  refine wpAnyH_take (i := 4) (oi := Oper.mk (some 11) _ _ _ _ _) (v := ?v17) rfl (by kernel_rfl) (by kernel_rfl) (by kernel_rfl) (fun _ _ _ h => h) (Or.inl ⟨by rfl, ?y17⟩) hHeld ?r17
  case y17 => (intro W hSW; obtain ⟨q0, q1, q2, q3, q4⟩ := hSW; go_simp; try with_reducible rfl)
  simp only [Act.put, List.setIfInBounds_toArray, List.set_cons_zero, List.set_cons_succ]
  refine wpAnyH_take (i := 5) (oi := Oper.mk (some 12) _ _ _ _ _) (v := ?v18) rfl (by kernel_rfl) (by kernel_rfl) (by kernel_rfl) (fun _ _ _ h => h) (Or.inl ⟨by rfl, ?y18⟩) hHeld ?r18
  case y18 => (intro W hSW; obtain ⟨q0, q1, q2, q3, q4⟩ := hSW; go_simp; try with_reducible rfl)
  simp only [Act.put, List.setIfInBounds_toArray, List.set_cons_zero, List.set_cons_succ]
  refine wpAnyH_ready (rs := [6]) (by kernel_rfl) (by simp) (AllReadyH.cons (o := Oper.mk (some 13) _ _ _ _ _) rfl (fun Kk hK => ?_) AllReadyH.nil)
  go_simp
  refine (l2Num_any x.sal _ (by omega) (by omega)).mono ?_
  rintro e u1 ⟨sn, rfl, hsn, HSn, hb⟩
  have A1 := box_step hA hb
  obtain ⟨g1, g2, g3, g4⟩ := HG.out sn hsn
  have B1 := hB1.trans (hb.mono hB1.size)
  clear hb
  refine hK.out _ _ ⟨boxk_cell A1 0 _ rfl, boxk_cell A1 1 _ rfl, boxk_cell A1 2 _ rfl, boxk_cell A1 3 _ rfl, boxk_cell A1 4 _ rfl⟩ (fun hHeld => ?_)
  clear hK Kk
  refine wpAnyH_take (i := 7) (oi := Oper.mk (some 14) _ _ _ _ _) (v := ?v19) rfl (by kernel_rfl) (by kernel_rfl) (by kernel_rfl) (fun _ _ _ h => h) (Or.inl ⟨by rfl, ?y19⟩) hHeld ?r19
  case y19 => (intro W hSW; obtain ⟨q0, q1, q2, q3, q4⟩ := hSW; go_simp; try with_reducible rfl)
  simp only [Act.put, List.setIfInBounds_toArray, List.set_cons_zero, List.set_cons_succ]
  refine wpAnyH_take (i := 8) (oi := Oper.mk (some 15) _ _ _ _ _) (v := ?v20) rfl (by kernel_rfl) (by kernel_rfl) (by kernel_rfl) (fun _ _ _ h => h) (Or.inl ⟨by rfl, ?y20⟩) hHeld ?r20
  case y20 => (intro W hSW; obtain ⟨q0, q1, q2, q3, q4⟩ := hSW; go_simp; try with_reducible rfl)
  simp only [Act.put, List.setIfInBounds_toArray, List.set_cons_zero, List.set_cons_succ]
  refine wpAnyH_take (i := 9) (oi := Oper.mk (some 3) _ _ _ _ _) (v := ?v21) rfl (by kernel_rfl) (by kernel_rfl) (by kernel_rfl) (fun _ _ _ h => h) (Or.inl ⟨by rfl, ?y21⟩) hHeld ?r21
  case y21 => (intro W hSW; obtain ⟨q0, q1, q2, q3, q4⟩ := hSW; go_simp; try with_reducible rfl)
  simp only [Act.put, List.setIfInBounds_toArray, List.set_cons_zero, List.set_cons_succ]
  refine wpAnyH_done (by kernel_rfl) ?_ _
  obtain ⟨p, hpq⟩ : ∃ p, p = headT x.nm x.sal := ⟨_, rfl⟩
  have hpe : ⟨#[114, 117, 108, 101, 32]⟩ ++ x.nm ++ ⟨#[32]⟩ ++ sn ++ ⟨#[58, 32]⟩ = p := by rw [hpq, HSn.out]; rfl
  have hp : p.size ≤ 60 := by
    rw [← hpe]
    have c1 : (ByteArray.mk #[114, 117, 108, 101, 32]).size = 5 := rfl
    have c2 : (ByteArray.mk #[32]).size = 1 := rfl
    have c3 : (ByteArray.mk #[58, 32]).size = 2 := rfl
    simp only [ByteArray.size_append, c1, c2, c3]; omega
  have HW := hide HW0.out
  rw [← hpq] at HW
  rw [hpe]
  clear hpe hpq HW0 g1 g2 g3 g4 HG hsn HSn
  have BB := B1
  have AA := A1
  clear A1 B1 hA hB1 hHeld
  go_wp2
  go_loopw [3, 4] (fun v i wr => ∃ (k : Nat), k ≤ x.nP ∧ i = .int .i64 k ∧ v = .string (p ++ upTo ⟨#[]⟩ (x.P.map PE.txt) k) ∧ Below w.heap.size w wr ∧ wr.heap[w.heap.size]? = some (.cells #[.string x.nm, .int .i64 x.sal, .slice x.aP x.nP x.cP, .slice x.aC x.nC x.cC, .slice x.aA x.nA x.cA] 40 (0, 0))) (fun _ i _ => x.nP - (intOf i).toNat)
  case atStart => exact ⟨0, Nat.zero_le _, rfl, by show _ = Value.string (p ++ ⟨#[]⟩); rw [app_nil], BB, AA⟩
  case round =>
    clear BB AA
    obtain ⟨k, hk, rfl, rfl, hbel, hX⟩ := hrel
    have HX := hide hX
    clear hX
    have a2 := boxk_cell HX.out 2 _ rfl
    have hus := upTo_size (lead := ⟨#[]⟩) (ts := x.P.map PE.txt) (k := k) (fun t ht => by obtain ⟨q, _, rfl⟩ := List.mem_map.1 ht; exact patT_size q) (by omega) (by decide)
    by_cases hlt : k < x.nP
    · have hlL : k < x.P.length := by rw [HNp.out]; exact hlt
      have hlT : k < (x.P.map PE.txt).length := by rw [List.length_map]; exact hlL
      obtain ⟨b, off, hab, hbw, hc⟩ := (hr.p.below hbel).cells (by omega)
      obtain ⟨c0, c1, c2, hin⟩ := hc k hlL
      clear hc
      have HIn := hide hin
      clear hin
      have hS := HSp.out _ (eAt_mem hlL)
      have H1 := fun h0 : k = 0 => upTo_one p ⟨#[]⟩ (ts := x.P.map PE.txt) (by omega)
      have H2 := fun h0 : k ≠ 0 => upTo_more p ⟨#[]⟩ hlT h0
      have hsat : sAt (x.P.map PE.txt) k = (eAt x.P k).txt := by rw [sAt_in hlT, List.getElem_map, eAt_in hlL]
      have hsz := patT_size (eAt x.P k)
      rw [hsat] at H2
      have H1' : k = 0 → p ++ upTo ⟨#[]⟩ (x.P.map PE.txt) k ++ ⟨#[]⟩ ++ (eAt x.P k).txt = p ++ upTo ⟨#[]⟩ (x.P.map PE.txt) (k + 1) := fun h0 => by
        have := H1 h0
        subst h0
        rw [hsat] at this; exact this
      have HH1 := hide H1'
      have HH2 := hide H2
      clear H1 H2 H1' hsat hlL hlT
      rw [hab] at a2
      clear hab
      generalize eAt x.P k = y at c0 c1 c2 hS HH1 HH2 hsz HIn
      have HTx : Hid (patT y.kd y.L y.nt = y.txt) := rfl
      generalize y.txt = ty at HH1 HH2 hsz HTx
      obtain ⟨s, hs'⟩ : ∃ s, s = p ++ upTo ⟨#[]⟩ (x.P.map PE.txt) k := ⟨_, rfl⟩
      have hssz : s.size ≤ p.size + 2416 := by rw [hs', ByteArray.size_append]; omega
      rw [← hs'] at HH1 HH2 ⊢
      clear hs' hus
      by_cases hk0 : k = 0
      · have HE := hide (HH1.out hk0)
        clear HH1 HH2
        subst hk0
        simp only [Nat.zero_mul, Nat.add_zero] at c0 c1 c2
        have nn25 : ¬ 9223372036854775807 < s.size + ty.size := by omega
        have nm25 : s.size + ty.size ≤ 9223372036854775807 := by omega
        go_wp2_with fail
        refine (specPatText_any y.kd y.a y.cap y.L y.nt _ (Nat.le_trans hS.1 (by unfold maxLen; omega)) HIn.out (fun v hv => fits_of (hS.2.2 v hv)) (Nat.le_trans hS.2.1 (by omega))).mono ?_
        rintro e w3 ⟨rfl, hb⟩
        have hbel2 := hbel.trans (hb.mono hbel.size)
        have HX2 := hide (box_step HX.out hb)
        rw [HTx.out]
        clear hb hbel c0 c1 c2
        go_wp2
        go_roundw
        case rel => exact ⟨0 + 1, by omega, by go_num, by rw [← HE.out, app_nil], hbel2, HX2.out⟩
        case measure => simp [intOf]; omega
      · have HE := hide (HH2.out hk0)
        clear HH1 HH2
        have hki : (0 : Int) < (k : Int) := by omega
        have hkj : ((k : Int) == 0) = false := by simp; omega
        have nn26 : ¬ 9223372036854775807 < s.size + 2 := by omega
        have nm26 : s.size + 2 ≤ 9223372036854775807 := by omega
        have nn27 : ¬ 9223372036854775807 < s.size + 2 + ty.size := by omega
        have nm27 : s.size + 2 + ty.size ≤ 9223372036854775807 := by omega
        go_wp2_with fail
        refine (specPatText_any y.kd y.a y.cap y.L y.nt _ (Nat.le_trans hS.1 (by unfold maxLen; omega)) HIn.out (fun v hv => fits_of (hS.2.2 v hv)) (Nat.le_trans hS.2.1 (by omega))).mono ?_
        rintro e w3 ⟨rfl, hb⟩
        have hbel2 := hbel.trans (hb.mono hbel.size)
        have HX2 := hide (box_step HX.out hb)
        rw [HTx.out]
        clear hb hbel c0 c1 c2
        go_wp2
        go_roundw
        case rel => exact ⟨k + 1, by omega, by go_num, by rw [← HE.out], hbel2, HX2.out⟩
        case measure => simp [intOf]; omega
    · obtain rfl : k = x.nP := by omega
      have hkk : p ++ upTo ⟨#[]⟩ (x.P.map PE.txt) x.nP = p ++ joinT (x.P.map PE.txt) := by
        unfold upTo
        rw [List.take_of_length_le (by rw [List.length_map, HNp.out]; exact Nat.le_refl _), if_neg (by omega), show (⟨#[]⟩ : ByteArray) ++ joinT (x.P.map PE.txt) = joinT (x.P.map PE.txt) from by apply ByteArray.ext; simp]
      rw [hkk]
      clear hkk hus
      have BB := hbel
      have AA := HX.out
      clear hbel HX
      have hq : (p ++ joinT (x.P.map PE.txt)).size ≤ 5000 := by rw [ByteArray.size_append]; omega
      generalize p ++ joinT (x.P.map PE.txt) = q at hq HW ⊢
      clear hp
      obtain ⟨p, hpq⟩ : ∃ p, p = q := ⟨_, rfl⟩
      subst hpq
      have hp := hq
      clear hq
      go_wp2
      go_loopw [3, 5] (fun v i wr => ∃ (k : Nat), k ≤ x.nC ∧ i = .int .i64 k ∧ v = .string (p ++ upTo ⟨#[32, 43, 32]⟩ (x.C.map C11.txt) k) ∧ Below w.heap.size w wr ∧ wr.heap[w.heap.size]? = some (.cells #[.string x.nm, .int .i64 x.sal, .slice x.aP x.nP x.cP, .slice x.aC x.nC x.cC, .slice x.aA x.nA x.cA] 40 (0, 0))) (fun _ i _ => x.nC - (intOf i).toNat)
      case atStart => exact ⟨0, Nat.zero_le _, rfl, by show _ = Value.string (p ++ ⟨#[]⟩); rw [app_nil], BB, AA⟩
      case round =>
        clear BB AA
        obtain ⟨k, hk, rfl, rfl, hbel, hX⟩ := hrel
        have HX := hide hX
        clear hX
        have a3 := boxk_cell HX.out 3 _ rfl
        have hus := upTo_size (lead := ⟨#[32, 43, 32]⟩) (ts := x.C.map C11.txt) (k := k) (fun t ht => by obtain ⟨q, _, rfl⟩ := List.mem_map.1 ht; exact condT_size q) (by omega) (by decide)
        by_cases hlt : k < x.nC
        · have hlL : k < x.C.length := by rw [HNc.out]; exact hlt
          have hlT : k < (x.C.map C11.txt).length := by rw [List.length_map]; exact hlL
          obtain ⟨b, off, hab, hbw, hc⟩ := RdCond.cells (RdK.below hr.c hbel) (by omega)
          obtain ⟨c0, c1, c2, c3, c4, c5, c6, c7, c8, c9, c10⟩ := hc k hlL
          clear hc
          have hS := HSc.out _ (eAt_mem hlL)
          have H1 := fun h0 : k = 0 => upTo_one p ⟨#[32, 43, 32]⟩ (ts := x.C.map C11.txt) (by omega)
          have H2 := fun h0 : k ≠ 0 => upTo_more p ⟨#[32, 43, 32]⟩ hlT h0
          have hsat : sAt (x.C.map C11.txt) k = (eAt x.C k).txt := by rw [sAt_in hlT, List.getElem_map, eAt_in hlL]
          have hsz := condT_size (eAt x.C k)
          rw [hsat] at H2
          have H1' : k = 0 → p ++ upTo ⟨#[32, 43, 32]⟩ (x.C.map C11.txt) k ++ ⟨#[32, 43, 32]⟩ ++ (eAt x.C k).txt = p ++ upTo ⟨#[32, 43, 32]⟩ (x.C.map C11.txt) (k + 1) := fun h0 => by
            have := H1 h0
            subst h0
            rw [hsat] at this; exact this
          have HH1 := hide H1'
          have HH2 := hide H2
          clear H1 H2 H1' hsat hlL hlT
          rw [hab] at a3
          clear hab
          generalize eAt x.C k = y at c0 c1 c2 c3 c4 c5 c6 c7 c8 c9 c10 hS HH1 HH2 hsz
          have HTx : Hid (condT y.Op y.L y.R = y.txt) := rfl
          generalize y.txt = ty at HH1 HH2 hsz HTx
          obtain ⟨s, hs'⟩ : ∃ s, s = p ++ upTo ⟨#[32, 43, 32]⟩ (x.C.map C11.txt) k := ⟨_, rfl⟩
          have hssz : s.size ≤ p.size + 2416 := by rw [hs', ByteArray.size_append]; omega
          rw [← hs'] at HH1 HH2 ⊢
          clear hs' hus
          by_cases hk0 : k = 0
          · have HE := hide (HH1.out hk0)
            clear HH1 HH2
            subst hk0
            simp only [Nat.zero_mul, Nat.add_zero] at c0 c1 c2 c3 c4 c5 c6 c7 c8 c9 c10
            have nn21 : ¬ 9223372036854775807 < s.size + 3 := by omega
            have nm21 : s.size + 3 ≤ 9223372036854775807 := by omega
            have nn22 : ¬ 9223372036854775807 < s.size + 3 + ty.size := by omega
            have nm22 : s.size + 3 + ty.size ≤ 9223372036854775807 := by omega
            go_wp2_with fail
            refine (specCondText_any y.Op y.L y.R _ (fits_of hS.1) (fits_of hS.2)).mono ?_
            rintro e w3 ⟨rfl, hb⟩
            have hbel2 := hbel.trans (hb.mono hbel.size)
            have HX2 := hide (box_step HX.out hb)
            rw [HTx.out]
            clear hb hbel c0 c1 c2 c3 c4 c5 c6 c7 c8 c9 c10
            go_wp2
            go_roundw
            case rel => exact ⟨0 + 1, by omega, by go_num, by rw [← HE.out], hbel2, HX2.out⟩
            case measure => simp [intOf]; omega
          · have HE := hide (HH2.out hk0)
            clear HH1 HH2
            have hki : (0 : Int) < (k : Int) := by omega
            have hkj : ((k : Int) == 0) = false := by simp; omega
            have nn23 : ¬ 9223372036854775807 < s.size + 2 := by omega
            have nm23 : s.size + 2 ≤ 9223372036854775807 := by omega
            have nn24 : ¬ 9223372036854775807 < s.size + 2 + ty.size := by omega
            have nm24 : s.size + 2 + ty.size ≤ 9223372036854775807 := by omega
            go_wp2_with fail
            refine (specCondText_any y.Op y.L y.R _ (fits_of hS.1) (fits_of hS.2)).mono ?_
            rintro e w3 ⟨rfl, hb⟩
            have hbel2 := hbel.trans (hb.mono hbel.size)
            have HX2 := hide (box_step HX.out hb)
            rw [HTx.out]
            clear hb hbel c0 c1 c2 c3 c4 c5 c6 c7 c8 c9 c10
            go_wp2
            go_roundw
            case rel => exact ⟨k + 1, by omega, by go_num, by rw [← HE.out], hbel2, HX2.out⟩
            case measure => simp [intOf]; omega
        · obtain rfl : k = x.nC := by omega
          have hkk : p ++ upTo ⟨#[32, 43, 32]⟩ (x.C.map C11.txt) x.nC = p ++ (if x.C = [] then ⟨#[]⟩ else ⟨#[32, 43, 32]⟩ ++ joinT (x.C.map C11.txt)) := by
            unfold upTo
            rw [List.take_of_length_le (by rw [List.length_map, HNc.out]; exact Nat.le_refl _)]
            by_cases h0 : x.C = []
            · rw [if_pos h0, if_pos (by rw [← HNc.out, h0]; rfl)]
            · rw [if_neg h0, if_neg (by rw [← HNc.out]; exact fun e => h0 (List.eq_nil_of_length_eq_zero e))]
          rw [hkk]
          clear hkk hus
          have BB := hbel
          have AA := HX.out
          clear hbel HX
          have hq : (p ++ (if x.C = [] then ⟨#[]⟩ else ⟨#[32, 43, 32]⟩ ++ joinT (x.C.map C11.txt))).size ≤ 10000 := by
            have c3 : (ByteArray.mk #[32, 43, 32]).size = 3 := rfl
            rw [ByteArray.size_append]; split
            · show p.size + 0 ≤ _; omega
            · rw [ByteArray.size_append, c3]; omega
          generalize p ++ (if x.C = [] then ⟨#[]⟩ else ⟨#[32, 43, 32]⟩ ++ joinT (x.C.map C11.txt)) = q at hq HW ⊢
          clear hp
          have nn16 : ¬ 9223372036854775807 < q.size + 4 := by omega
          have nm16 : q.size + 4 ≤ 9223372036854775807 := by omega
          go_wp2
          obtain ⟨p, hpq⟩ : ∃ p, p = q ++ ⟨#[32, 45, 62, 32]⟩ := ⟨_, rfl⟩
          have hp : p.size ≤ 10004 := by rw [hpq, ByteArray.size_append]; have c : (ByteArray.mk #[32, 45, 62, 32]).size = 4 := rfl; omega
          rw [← hpq] at HW ⊢
          clear hpq hq
          go_loopw [3, 6] (fun v i wr => ∃ (k : Nat), k ≤ x.nA ∧ i = .int .i64 k ∧ v = .string (p ++ upTo ⟨#[]⟩ (x.A.map QE.txt) k) ∧ Below w.heap.size w wr ∧ wr.heap[w.heap.size]? = some (.cells #[.string x.nm, .int .i64 x.sal, .slice x.aP x.nP x.cP, .slice x.aC x.nC x.cC, .slice x.aA x.nA x.cA] 40 (0, 0))) (fun _ i _ => x.nA - (intOf i).toNat)
          case atStart => exact ⟨0, Nat.zero_le _, rfl, by show _ = Value.string (p ++ ⟨#[]⟩); rw [app_nil], BB, AA⟩
          case round =>
            clear BB AA
            obtain ⟨k, hk, rfl, rfl, hbel, hX⟩ := hrel
            have HX := hide hX
            clear hX
            have a4 := boxk_cell HX.out 4 _ rfl
            have hus := upTo_size (lead := ⟨#[]⟩) (ts := x.A.map QE.txt) (k := k) (fun t ht => by obtain ⟨q, _, rfl⟩ := List.mem_map.1 ht; exact actT_size q) (by omega) (by decide)
            by_cases hlt : k < x.nA
            · have hlL : k < x.A.length := by rw [HNa.out]; exact hlt
              have hlT : k < (x.A.map QE.txt).length := by rw [List.length_map]; exact hlL
              obtain ⟨b, off, hab, hbw, hc⟩ := (hr.a.below hbel).cells (by omega)
              obtain ⟨c0, c1, c2, c3, c4, hin⟩ := hc k hlL
              clear hc
              have HIn := hide hin
              clear hin
              have hS := HSa.out _ (eAt_mem hlL)
              have H1 := fun h0 : k = 0 => upTo_one p ⟨#[]⟩ (ts := x.A.map QE.txt) (by omega)
              have H2 := fun h0 : k ≠ 0 => upTo_more p ⟨#[]⟩ hlT h0
              have hsat : sAt (x.A.map QE.txt) k = (eAt x.A k).txt := by rw [sAt_in hlT, List.getElem_map, eAt_in hlL]
              have hsz := actT_size (eAt x.A k)
              rw [hsat] at H2
              have H1' : k = 0 → p ++ upTo ⟨#[]⟩ (x.A.map QE.txt) k ++ ⟨#[]⟩ ++ (eAt x.A k).txt = p ++ upTo ⟨#[]⟩ (x.A.map QE.txt) (k + 1) := fun h0 => by
                have := H1 h0
                subst h0
                rw [hsat] at this; exact this
              have HH1 := hide H1'
              have HH2 := hide H2
              clear H1 H2 H1' hsat hlL hlT
              rw [hab] at a4
              clear hab
              generalize eAt x.A k = y at c0 c1 c2 c3 c4 hS HH1 HH2 hsz HIn
              have HTx : Hid (actT y.K y.nm y.L y.N y.un = y.txt) := rfl
              generalize y.txt = ty at HH1 HH2 hsz HTx
              obtain ⟨s, hs'⟩ : ∃ s, s = p ++ upTo ⟨#[]⟩ (x.A.map QE.txt) k := ⟨_, rfl⟩
              have hssz : s.size ≤ p.size + 2416 := by rw [hs', ByteArray.size_append]; omega
              rw [← hs'] at HH1 HH2 ⊢
              clear hs' hus
              by_cases hk0 : k = 0
              · have HE := hide (HH1.out hk0)
                clear HH1 HH2
                subst hk0
                simp only [Nat.zero_mul, Nat.add_zero] at c0 c1 c2 c3 c4
                have nn18 : ¬ 9223372036854775807 < s.size + ty.size := by omega
                have nm18 : s.size + ty.size ≤ 9223372036854775807 := by omega
                go_wp2_with fail
                refine (specActText_any y.K y.nm y.a y.cap y.L y.N y.un _ (Nat.le_trans hS.1 (by unfold maxLen; omega)) HIn.out (fun v hv => by obtain ⟨g0, g1, g2⟩ := hS.2.2.2 v hv; exact ⟨Nat.le_trans g0 (by unfold maxLen; omega), fits_of g1, fits_of g2⟩) (Nat.le_trans hS.2.2.1 (by omega)) (Nat.le_trans hS.2.1 (by unfold maxLen; omega))).mono ?_
                rintro e w3 ⟨rfl, hb⟩
                have hbel2 := hbel.trans (hb.mono hbel.size)
                have HX2 := hide (box_step HX.out hb)
                rw [HTx.out]
                clear hb hbel c0 c1 c2 c3 c4
                go_wp2
                go_roundw
                case rel => exact ⟨0 + 1, by omega, by go_num, by rw [← HE.out, app_nil], hbel2, HX2.out⟩
                case measure => simp [intOf]; omega
              · have HE := hide (HH2.out hk0)
                clear HH1 HH2
                have hki : (0 : Int) < (k : Int) := by omega
                have hkj : ((k : Int) == 0) = false := by simp; omega
                have nn19 : ¬ 9223372036854775807 < s.size + 2 := by omega
                have nm19 : s.size + 2 ≤ 9223372036854775807 := by omega
                have nn20 : ¬ 9223372036854775807 < s.size + 2 + ty.size := by omega
                have nm20 : s.size + 2 + ty.size ≤ 9223372036854775807 := by omega
                go_wp2_with fail
                refine (specActText_any y.K y.nm y.a y.cap y.L y.N y.un _ (Nat.le_trans hS.1 (by unfold maxLen; omega)) HIn.out (fun v hv => by obtain ⟨g0, g1, g2⟩ := hS.2.2.2 v hv; exact ⟨Nat.le_trans g0 (by unfold maxLen; omega), fits_of g1, fits_of g2⟩) (Nat.le_trans hS.2.2.1 (by omega)) (Nat.le_trans hS.2.1 (by unfold maxLen; omega))).mono ?_
                rintro e w3 ⟨rfl, hb⟩
                have hbel2 := hbel.trans (hb.mono hbel.size)
                have HX2 := hide (box_step HX.out hb)
                rw [HTx.out]
                clear hb hbel c0 c1 c2 c3 c4
                go_wp2
                go_roundw
                case rel => exact ⟨k + 1, by omega, by go_num, by rw [← HE.out], hbel2, HX2.out⟩
                case measure => simp [intOf]; omega
            · obtain rfl : k = x.nA := by omega
              have hkk : p ++ upTo ⟨#[]⟩ (x.A.map QE.txt) x.nA = p ++ joinT (x.A.map QE.txt) := by
                unfold upTo
                rw [List.take_of_length_le (by rw [List.length_map, HNa.out]; exact Nat.le_refl _), if_neg (by omega), show (⟨#[]⟩ : ByteArray) ++ joinT (x.A.map QE.txt) = joinT (x.A.map QE.txt) from by apply ByteArray.ext; simp]
              rw [hkk]
              clear hkk hus
              have BB := hbel
              have AA := HX.out
              clear hbel HX
              have hq : (p ++ joinT (x.A.map QE.txt)).size ≤ 20000 := by rw [ByteArray.size_append]; omega
              generalize p ++ joinT (x.A.map QE.txt) = q at hq HW ⊢
              have nn17 : ¬ 9223372036854775807 < q.size + 2 := by omega
              have nm17 : q.size + 2 ≤ 9223372036854775807 := by omega
              go_wp2
              go_ret
              exact ⟨by rw [HW.out]; rfl, BB⟩
end Go.Proofs.YtcfhpcbkdpgboaaGreatDoor
