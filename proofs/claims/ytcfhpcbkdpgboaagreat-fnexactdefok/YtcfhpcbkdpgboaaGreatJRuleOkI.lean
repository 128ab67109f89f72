/-
  What the tested RuleOk answers: ruleB.
-/
import Derived.Test.YtcfhpcbkdpgboaaGreatJRuleOkB
namespace Go.Proofs.YtcfhpcbkdpgboaaGreat
open Go.RowKit
set_option linter.unusedVariables false

theorem eAt_take {α : Type} [Inhabited α] {L : List α} {n i : Nat} (h : i < n) (h2 : i < L.length) : eAt (L.take n) i = eAt L i := by
  rw [eAt_in (by rw [List.length_take]; omega), eAt_in h2, List.getElem_take]
theorem OwnRule.capP {w : World} {lo hi : Nat} {x : RE} (h : OwnRule w lo hi x) : x.nP ≤ x.cP := by
  obtain ⟨gP, gC, gA, m1, m2, e1, o1, -⟩ := h.own
  have := OwnK.cap o1.own
  rw [← h.np]; exact this
theorem RdPatS.take {w : World} {a : Option Addr} {J : List PE} (h : RdPatS w a J) (n : Nat) : RdPatS w a (J.take n) :=
  ⟨RdK.take (M := J.drop n) (by rw [List.take_append_drop]; exact h.1), fun i hi => by
    have hi2 := hi
    rw [List.length_take] at hi2
    rw [eAt_take (by omega) (by omega)]
    exact h.2 i (by omega)⟩

set_option maxRecDepth 100000 in
set_option maxHeartbeats 3200000 in
theorem patsOk_any (x : RE) (aJ : Option Addr) (nJ cJ : Nat) (w : World) (hr : RdRule w x) (hc : x.nP ≤ x.cP) (hs : ∀ p ∈ x.P, p.small) (hzJ : (posB x.P).length = nJ) (hn : x.nP ≤ 1048576) :
    Calls Tryz.prog 32 #[.agg #[.string x.nm, .int .i64 x.sal, .slice x.aP x.nP x.cP, .slice x.aC x.nC x.cC, .slice x.aA x.nA x.cA, .slice aJ nJ cJ]] w fun e w' => e = .returned (.bool (patsI x.P)) ∧ Below w.heap.size w w' := by
  have HC : Hid (patsI x.P = ((inB x.nP 1 6 && x.P.all PE.okB) && (inB nJ 1 3 && (x.P.take nJ).all PE.pos))) := by unfold Hid patsI; rw [hzJ, hr.np]; rfl
  have hl := posB_len x.P
  rw [hzJ, hr.np] at hl
  have htl : (x.P.take nJ).length = nJ := by rw [List.length_take, hr.np]; omega
  have b1 := below_al w (.cells #[.string x.nm, .int .i64 x.sal, .slice x.aP x.nP x.cP, .slice x.aC x.nC x.cC, .slice x.aA x.nA x.cA, .slice aJ nJ cJ] 63)
  have hA0 := boxk_new w #[.string x.nm, .int .i64 x.sal, .slice x.aP x.nP x.cP, .slice x.aC x.nC x.cC, .slice x.aA x.nA x.cA, .slice aJ nJ cJ] 63
  go_enter Tryz.func32, Tryz.ntmps32
  go_wp2
  generalize w.alloc (.cells #[.string x.nm, .int .i64 x.sal, .slice x.aP x.nP x.cP, .slice x.aC x.nC x.cC, .slice x.aA x.nA x.cA, .slice aJ nJ cJ] 63) = w0 at hA0 b1 ⊢
  have hA : w0.drew.heap[w.heap.size]? = some (.cells #[.string x.nm, .int .i64 x.sal, .slice x.aP x.nP x.cP, .slice x.aC x.nC x.cC, .slice x.aA x.nA x.cA, .slice aJ nJ cJ] 63 (0, 0)) := hA0
  have hrd : RdPatS w0.drew x.aP x.P := (hr.p.below b1).heap rfl
  have b1d := b1.drew
  cases hok : (inB x.nP 1 6 && x.P.all PE.okB)
  · have HF : Hid (patsI x.P = false) := by unfold Hid; rw [HC.out, hok]; rfl
    refine wp_region_held_drew (S := fun W => W.cell? ⟨w.heap.size, 0, none⟩ = some (.string x.nm) ∧ W.cell? ⟨w.heap.size, 1, none⟩ = some (.int .i64 x.sal) ∧ W.cell? ⟨w.heap.size, 2, none⟩ = some (.slice x.aP x.nP x.cP) ∧ W.cell? ⟨w.heap.size, 3, none⟩ = some (.slice x.aC x.nC x.cC) ∧ W.cell? ⟨w.heap.size, 4, none⟩ = some (.slice x.aA x.nA x.cA) ∧ W.cell? ⟨w.heap.size, 5, none⟩ = some (.slice aJ nJ cJ)) (by kernel_rfl) ⟨boxk_cell hA 0 _ rfl, boxk_cell hA 1 _ rfl, boxk_cell hA 2 _ rfl, boxk_cell hA 3 _ rfl, boxk_cell hA 4 _ rfl, boxk_cell hA 5 _ rfl⟩ (fun hHeld => ?_)
    refine wpAnyH_take (i := 0) (oi := Oper.mk (some 3) _ _ _ _ _) (v := ?v58) rfl (by kernel_rfl) (by kernel_rfl) (by kernel_rfl) (fun _ _ _ h => h) (Or.inl ⟨by rfl, ?y58⟩) hHeld ?r58
    case y58 => (intro W hSW; obtain ⟨q0, q1, q2, q3, q4, q5⟩ := hSW; go_simp; try with_reducible rfl)
    simp only [Act.put, List.setIfInBounds_toArray, List.set_cons_zero, List.set_cons_succ]
    refine wpAnyH_take (i := 1) (oi := Oper.mk (some 4) _ _ _ _ _) (v := ?v59) rfl (by kernel_rfl) (by kernel_rfl) (by kernel_rfl) (fun _ _ _ h => h) (Or.inl ⟨by rfl, ?y59⟩) hHeld ?r59
    case y59 => (intro W hSW; obtain ⟨q0, q1, q2, q3, q4, q5⟩ := hSW; go_simp; try with_reducible rfl)
    simp only [Act.put, List.setIfInBounds_toArray, List.set_cons_zero, List.set_cons_succ]
    refine wpAnyH_take (i := 2) (oi := Oper.mk (some 5) _ _ _ _ _) (v := ?v60) rfl (by kernel_rfl) (by kernel_rfl) (by kernel_rfl) (fun _ _ _ h => h) (Or.inl ⟨by rfl, ?y60⟩) hHeld ?r60
    case y60 => (intro W hSW; obtain ⟨q0, q1, q2, q3, q4, q5⟩ := hSW; go_simp; try with_reducible rfl)
    simp only [Act.put, List.setIfInBounds_toArray, List.set_cons_zero, List.set_cons_succ]
    refine wpAnyH_ready (rs := [3]) (by kernel_rfl) (by simp) (AllReadyH.cons (o := Oper.mk (some 6) _ _ _ _ _) rfl (fun Kk hK => ?_) AllReadyH.nil)
    go_simp
    refine (listP_any x.aP x.cP x.nP x.P _ hr.np hrd hs (by omega)).mono ?_
    rintro e u1 ⟨rfl, hb⟩
    rw [hok]
    have A1 := box_step hA hb
    have B1 := b1d.trans (hb.mono b1d.size)
    have R1 := hrd.below hb
    clear hb
    refine hK.out _ _ ⟨boxk_cell A1 0 _ rfl, boxk_cell A1 1 _ rfl, boxk_cell A1 2 _ rfl, boxk_cell A1 3 _ rfl, boxk_cell A1 4 _ rfl, boxk_cell A1 5 _ rfl⟩ (fun hHeld => ?_)
    clear hK Kk
    refine wpAnyH_take (i := 4) (oi := Oper.mk (some 7) _ _ _ _ _) (v := ?v61) rfl (by kernel_rfl) (by kernel_rfl) (by kernel_rfl) (fun _ _ _ h => h) (Or.inl ⟨by rfl, ?y61⟩) hHeld ?r61
    case y61 => (intro W hSW; obtain ⟨q0, q1, q2, q3, q4, q5⟩ := hSW; go_simp; try with_reducible rfl)
    simp only [Act.put, List.setIfInBounds_toArray, List.set_cons_zero, List.set_cons_succ]
    refine wpAnyH_take (i := 5) (oi := Oper.mk (some 8) _ _ _ _ _) (v := undef) rfl (by kernel_rfl) (by kernel_rfl) (by kernel_rfl) (fun _ _ _ h => h) (Or.inr ⟨by rfl, rfl⟩) hHeld ?_
    simp only [Act.put, List.setIfInBounds_toArray, List.set_cons_zero, List.set_cons_succ]
    refine wpAnyH_take (i := 6) (oi := Oper.mk (some 9) _ _ _ _ _) (v := undef) rfl (by kernel_rfl) (by kernel_rfl) (by kernel_rfl) (fun _ _ _ h => h) (Or.inr ⟨by rfl, rfl⟩) hHeld ?_
    simp only [Act.put, List.setIfInBounds_toArray, List.set_cons_zero, List.set_cons_succ]
    refine wpAnyH_take (i := 7) (oi := Oper.mk (some 10) _ _ _ _ _) (v := undef) rfl (by kernel_rfl) (by kernel_rfl) (by kernel_rfl) (fun _ _ _ h => h) (Or.inr ⟨by rfl, rfl⟩) hHeld ?_
    simp only [Act.put, List.setIfInBounds_toArray, List.set_cons_zero, List.set_cons_succ]
    refine wpAnyH_take (i := 8) (oi := Oper.mk (some 11) _ _ _ _ _) (v := undef) rfl (by kernel_rfl) (by kernel_rfl) (by kernel_rfl) (fun _ _ _ h => h) (Or.inr ⟨by rfl, rfl⟩) hHeld ?_
    simp only [Act.put, List.setIfInBounds_toArray, List.set_cons_zero, List.set_cons_succ]
    refine wpAnyH_take (i := 9) (oi := Oper.mk (some 12) _ _ _ _ _) (v := undef) rfl (by kernel_rfl) (by kernel_rfl) (by kernel_rfl) (fun _ _ _ h => h) (Or.inr ⟨by rfl, rfl⟩) hHeld ?_
    simp only [Act.put, List.setIfInBounds_toArray, List.set_cons_zero, List.set_cons_succ]
    refine wpAnyH_take (i := 10) (oi := Oper.mk (some 13) _ _ _ _ _) (v := undef) rfl (by kernel_rfl) (by kernel_rfl) (by kernel_rfl) (fun _ _ _ h => h) (Or.inr ⟨by rfl, rfl⟩) hHeld ?_
    simp only [Act.put, List.setIfInBounds_toArray, List.set_cons_zero, List.set_cons_succ]
    refine wpAnyH_take (i := 11) (oi := Oper.mk (some 14) _ _ _ _ _) (v := undef) rfl (by kernel_rfl) (by kernel_rfl) (by kernel_rfl) (fun _ _ _ h => h) (Or.inr ⟨by rfl, rfl⟩) hHeld ?_
    simp only [Act.put, List.setIfInBounds_toArray, List.set_cons_zero, List.set_cons_succ]
    refine wpAnyH_take (i := 12) (oi := Oper.mk (some 15) _ _ _ _ _) (v := undef) rfl (by kernel_rfl) (by kernel_rfl) (by kernel_rfl) (fun _ _ _ h => h) (Or.inr ⟨by rfl, rfl⟩) hHeld ?_
    simp only [Act.put, List.setIfInBounds_toArray, List.set_cons_zero, List.set_cons_succ]
    refine wpAnyH_take (i := 13) (oi := Oper.mk (some 16) _ _ _ _ _) (v := ?v62) rfl (by kernel_rfl) (by kernel_rfl) (by kernel_rfl) (fun _ _ _ h => h) (Or.inl ⟨by rfl, ?y62⟩) hHeld ?r62
    case y62 => (intro W hSW; obtain ⟨q0, q1, q2, q3, q4, q5⟩ := hSW; go_simp; try with_reducible rfl)
    simp only [Act.put, List.setIfInBounds_toArray, List.set_cons_zero, List.set_cons_succ]
    refine wpAnyH_take (i := 14) (oi := Oper.mk (some 2) _ _ _ _ _) (v := ?v63) rfl (by kernel_rfl) (by kernel_rfl) (by kernel_rfl) (fun _ _ _ h => h) (Or.inl ⟨by rfl, ?y63⟩) hHeld ?r63
    case y63 => (intro W hSW; obtain ⟨q0, q1, q2, q3, q4, q5⟩ := hSW; go_simp; try with_reducible rfl)
    simp only [Act.put, List.setIfInBounds_toArray, List.set_cons_zero, List.set_cons_succ]
    refine wpAnyH_done (by kernel_rfl) ?_ _
    go_wp2
    go_ret
    exact ⟨by rw [HF.out]; rfl, B1⟩
  · have HF : Hid (patsI x.P = (inB nJ 1 3 && (x.P.take nJ).all PE.pos)) := by unfold Hid; rw [HC.out, hok]; rfl
    have h1 : 1 ≤ x.nP := by
      simp only [Bool.and_eq_true, inB_iff] at hok
      omega
    have i0 : (0 : Int) ≤ (nJ : Int) := by omega
    have i1 : (nJ : Int) ≤ (x.cP : Int) := by omega
    have i2 : ¬ (x.cP = 0) := by omega
    refine wp_region_held_drew (S := fun W => W.cell? ⟨w.heap.size, 0, none⟩ = some (.string x.nm) ∧ W.cell? ⟨w.heap.size, 1, none⟩ = some (.int .i64 x.sal) ∧ W.cell? ⟨w.heap.size, 2, none⟩ = some (.slice x.aP x.nP x.cP) ∧ W.cell? ⟨w.heap.size, 3, none⟩ = some (.slice x.aC x.nC x.cC) ∧ W.cell? ⟨w.heap.size, 4, none⟩ = some (.slice x.aA x.nA x.cA) ∧ W.cell? ⟨w.heap.size, 5, none⟩ = some (.slice aJ nJ cJ)) (by kernel_rfl) ⟨boxk_cell hA 0 _ rfl, boxk_cell hA 1 _ rfl, boxk_cell hA 2 _ rfl, boxk_cell hA 3 _ rfl, boxk_cell hA 4 _ rfl, boxk_cell hA 5 _ rfl⟩ (fun hHeld => ?_)
    refine wpAnyH_take (i := 0) (oi := Oper.mk (some 3) _ _ _ _ _) (v := ?v64) rfl (by kernel_rfl) (by kernel_rfl) (by kernel_rfl) (fun _ _ _ h => h) (Or.inl ⟨by rfl, ?y64⟩) hHeld ?r64
    case y64 => (intro W hSW; obtain ⟨q0, q1, q2, q3, q4, q5⟩ := hSW; go_simp; try with_reducible rfl)
    simp only [Act.put, List.setIfInBounds_toArray, List.set_cons_zero, List.set_cons_succ]
    refine wpAnyH_take (i := 1) (oi := Oper.mk (some 4) _ _ _ _ _) (v := ?v65) rfl (by kernel_rfl) (by kernel_rfl) (by kernel_rfl) (fun _ _ _ h => h) (Or.inl ⟨by rfl, ?y65⟩) hHeld ?r65
    case y65 => (intro W hSW; obtain ⟨q0, q1, q2, q3, q4, q5⟩ := hSW; go_simp; try with_reducible rfl)
    simp only [Act.put, List.setIfInBounds_toArray, List.set_cons_zero, List.set_cons_succ]
    refine wpAnyH_take (i := 2) (oi := Oper.mk (some 5) _ _ _ _ _) (v := ?v66) rfl (by kernel_rfl) (by kernel_rfl) (by kernel_rfl) (fun _ _ _ h => h) (Or.inl ⟨by rfl, ?y66⟩) hHeld ?r66
    case y66 => (intro W hSW; obtain ⟨q0, q1, q2, q3, q4, q5⟩ := hSW; go_simp; try with_reducible rfl)
    simp only [Act.put, List.setIfInBounds_toArray, List.set_cons_zero, List.set_cons_succ]
    refine wpAnyH_ready (rs := [3]) (by kernel_rfl) (by simp) (AllReadyH.cons (o := Oper.mk (some 6) _ _ _ _ _) rfl (fun Kk hK => ?_) AllReadyH.nil)
    go_simp
    refine (listP_any x.aP x.cP x.nP x.P _ hr.np hrd hs (by omega)).mono ?_
    rintro e u1 ⟨rfl, hb⟩
    rw [hok]
    have A1 := box_step hA hb
    have B1 := b1d.trans (hb.mono b1d.size)
    have R1 := hrd.below hb
    clear hb
    refine hK.out _ _ ⟨boxk_cell A1 0 _ rfl, boxk_cell A1 1 _ rfl, boxk_cell A1 2 _ rfl, boxk_cell A1 3 _ rfl, boxk_cell A1 4 _ rfl, boxk_cell A1 5 _ rfl⟩ (fun hHeld => ?_)
    clear hK Kk
    refine wpAnyH_take (i := 4) (oi := Oper.mk (some 7) _ _ _ _ _) (v := ?v67) rfl (by kernel_rfl) (by kernel_rfl) (by kernel_rfl) (fun _ _ _ h => h) (Or.inl ⟨by rfl, ?y67⟩) hHeld ?r67
    case y67 => (intro W hSW; obtain ⟨q0, q1, q2, q3, q4, q5⟩ := hSW; go_simp; try with_reducible rfl)
    simp only [Act.put, List.setIfInBounds_toArray, List.set_cons_zero, List.set_cons_succ]
    refine wpAnyH_take (i := 5) (oi := Oper.mk (some 8) _ _ _ _ _) (v := ?v68) rfl (by kernel_rfl) (by kernel_rfl) (by kernel_rfl) (fun _ _ _ h => h) (Or.inl ⟨by rfl, ?y68⟩) hHeld ?r68
    case y68 => (intro W hSW; obtain ⟨q0, q1, q2, q3, q4, q5⟩ := hSW; go_simp; try with_reducible rfl)
    simp only [Act.put, List.setIfInBounds_toArray, List.set_cons_zero, List.set_cons_succ]
    refine wpAnyH_take (i := 6) (oi := Oper.mk (some 9) _ _ _ _ _) (v := ?v69) rfl (by kernel_rfl) (by kernel_rfl) (by kernel_rfl) (fun _ _ _ h => h) (Or.inl ⟨by rfl, ?y69⟩) hHeld ?r69
    case y69 => (intro W hSW; obtain ⟨q0, q1, q2, q3, q4, q5⟩ := hSW; go_simp; try with_reducible rfl)
    simp only [Act.put, List.setIfInBounds_toArray, List.set_cons_zero, List.set_cons_succ]
    refine wpAnyH_take (i := 7) (oi := Oper.mk (some 10) _ _ _ _ _) (v := ?v70) rfl (by kernel_rfl) (by kernel_rfl) (by kernel_rfl) (fun _ _ _ h => h) (Or.inl ⟨by rfl, ?y70⟩) hHeld ?r70
    case y70 => (intro W hSW; obtain ⟨q0, q1, q2, q3, q4, q5⟩ := hSW; go_simp; try with_reducible rfl)
    simp only [Act.put, List.setIfInBounds_toArray, List.set_cons_zero, List.set_cons_succ]
    refine wpAnyH_take (i := 8) (oi := Oper.mk (some 11) _ _ _ _ _) (v := ?v71) rfl (by kernel_rfl) (by kernel_rfl) (by kernel_rfl) (fun _ _ _ h => h) (Or.inl ⟨by rfl, ?y71⟩) hHeld ?r71
    case y71 => (intro W hSW; obtain ⟨q0, q1, q2, q3, q4, q5⟩ := hSW; go_simp; try with_reducible rfl)
    simp only [Act.put, List.setIfInBounds_toArray, List.set_cons_zero, List.set_cons_succ]
    refine wpAnyH_take (i := 9) (oi := Oper.mk (some 12) _ _ _ _ _) (v := ?v72) rfl (by kernel_rfl) (by kernel_rfl) (by kernel_rfl) (fun _ _ _ h => h) (Or.inl ⟨by rfl, ?y72⟩) hHeld ?r72
    case y72 => (intro W hSW; obtain ⟨q0, q1, q2, q3, q4, q5⟩ := hSW; go_simp; try with_reducible rfl)
    simp only [Act.put, List.setIfInBounds_toArray, List.set_cons_zero, List.set_cons_succ]
    refine wpAnyH_ready (rs := [10]) (by kernel_rfl) (by simp) (AllReadyH.cons (o := Oper.mk (some 13) _ _ _ _ _) rfl (fun Kk hK => ?_) AllReadyH.nil)
    go_simp
    refine (count_any aJ nJ cJ _ (by omega)).mono ?_
    rintro e u2 ⟨rfl, rfl⟩
    refine hK.out _ _ ⟨boxk_cell A1 0 _ rfl, boxk_cell A1 1 _ rfl, boxk_cell A1 2 _ rfl, boxk_cell A1 3 _ rfl, boxk_cell A1 4 _ rfl, boxk_cell A1 5 _ rfl⟩ (fun hHeld => ?_)
    clear hK Kk
    refine wpAnyH_take (i := 11) (oi := Oper.mk (some 14) _ _ _ _ _) (v := ?v73) rfl (by kernel_rfl) (by kernel_rfl) (by kernel_rfl) (fun _ _ _ h => h) (Or.inl ⟨by rfl, ?y73⟩) hHeld ?r73
    case y73 => (intro W hSW; obtain ⟨q0, q1, q2, q3, q4, q5⟩ := hSW; go_simp; try with_reducible rfl)
    simp only [Act.put, List.setIfInBounds_toArray, List.set_cons_zero, List.set_cons_succ]
    refine wpAnyH_ready (rs := [12]) (by kernel_rfl) (by simp) (AllReadyH.cons (o := Oper.mk (some 15) _ _ _ _ _) rfl (fun Kk hK => ?_) AllReadyH.nil)
    go_simp
    refine (listB_any x.aP x.cP nJ (x.P.take nJ) _ htl (R1.take nJ) (by omega)).mono ?_
    rintro e u3 ⟨rfl, hb⟩
    have A3 := box_step A1 hb
    have B3 := B1.trans (hb.mono B1.size)
    clear hb
    refine hK.out _ _ ⟨boxk_cell A3 0 _ rfl, boxk_cell A3 1 _ rfl, boxk_cell A3 2 _ rfl, boxk_cell A3 3 _ rfl, boxk_cell A3 4 _ rfl, boxk_cell A3 5 _ rfl⟩ (fun hHeld => ?_)
    clear hK Kk
    refine wpAnyH_take (i := 13) (oi := Oper.mk (some 16) _ _ _ _ _) (v := ?v74) rfl (by kernel_rfl) (by kernel_rfl) (by kernel_rfl) (fun _ _ _ h => h) (Or.inl ⟨by rfl, ?y74⟩) hHeld ?r74
    case y74 => (intro W hSW; obtain ⟨q0, q1, q2, q3, q4, q5⟩ := hSW; go_simp; try with_reducible rfl)
    simp only [Act.put, List.setIfInBounds_toArray, List.set_cons_zero, List.set_cons_succ]
    refine wpAnyH_take (i := 14) (oi := Oper.mk (some 2) _ _ _ _ _) (v := ?v75) rfl (by kernel_rfl) (by kernel_rfl) (by kernel_rfl) (fun _ _ _ h => h) (Or.inl ⟨by rfl, ?y75⟩) hHeld ?r75
    case y75 => (intro W hSW; obtain ⟨q0, q1, q2, q3, q4, q5⟩ := hSW; go_simp; try with_reducible rfl)
    simp only [Act.put, List.setIfInBounds_toArray, List.set_cons_zero, List.set_cons_succ]
    refine wpAnyH_done (by kernel_rfl) ?_ _
    go_wp2
    go_ret
    exact ⟨by rw [HF.out]; rfl, B3⟩

set_option maxRecDepth 100000 in
set_option maxHeartbeats 3200000 in
theorem implRuleOk_any (x : RE) (w : World) (hr : RdRule w x) (hs : x.small) (hc : x.nP ≤ x.cP) :
    Calls Tryz.prog 17 #[.agg #[.string x.nm, .int .i64 x.sal, .slice x.aP x.nP x.cP, .slice x.aC x.nC x.cC, .slice x.aA x.nA x.cA]] w fun e w' =>
      e = .returned (.bool (ruleB x)) ∧ Below w.heap.size w w' := by
  have HC : Hid (ruleB x = (nameB x.nm && inB x.sal (-100) 100 && patsI x.P && (decide (x.nC ≤ 6) && x.C.all (condI (posB x.P))) && (inB x.nA 1 6 && x.A.all (actI (posB x.P))))) := by
    unfold Hid
    rw [ruleB_I, ← hr.nc, ← hr.na]; rfl
  obtain ⟨s1, s2, s3, s4⟩ := hs
  unfold RE.sz at s1
  have hn : x.nP ≤ 1048576 := by rw [← hr.np]; omega
  have hnC : x.nC ≤ 1048576 := by rw [← hr.nc]; omega
  have hnA : x.nA ≤ 1048576 := by rw [← hr.na]; omega
  have hkd : x.nm.size ≤ maxLen := by unfold maxLen; omega
  have hlJ := posB_len x.P
  rw [hr.np] at hlJ
  have hsJ : ∀ p ∈ posB x.P, p.small := fun p hp => s2 p (List.mem_filter.1 hp).1
  clear s1
  have b0 := below_al w (.cells #[.string x.nm, .int .i64 x.sal, .slice x.aP x.nP x.cP, .slice x.aC x.nC x.cC, .slice x.aA x.nA x.cA] 39)
  go_enter Tryz.func17, Tryz.ntmps17
  go_wp2_with fail
  refine (boundRuleOf_any x _ (hr.below b0) hn).mono ?_
  rintro e w1 ⟨aJ, cJ, rfl, hJ, hb⟩
  have hB1 : Below w.heap.size w w1 := b0.trans (hb.mono b0.size)
  clear hb b0
  obtain ⟨nJ, hnn⟩ : ∃ nJ, (posB x.P).length = nJ := ⟨_, rfl⟩
  rw [hnn] at hlJ ⊢
  have HNN := hide hnn
  clear hnn
  have b1 := below_al w1 (.cells #[.string x.nm, .int .i64 x.sal, .slice x.aP x.nP x.cP, .slice x.aC x.nC x.cC, .slice x.aA x.nA x.cA, .slice aJ nJ cJ] 63)
  have hA2 := boxk_new w1 #[.string x.nm, .int .i64 x.sal, .slice x.aP x.nP x.cP, .slice x.aC x.nC x.cC, .slice x.aA x.nA x.cA, .slice aJ nJ cJ] 63
  have hJ2 := hJ.below b1
  have hB2 : Below w.heap.size w (w1.alloc (.cells #[.string x.nm, .int .i64 x.sal, .slice x.aP x.nP x.cP, .slice x.aC x.nC x.cC, .slice x.aA x.nA x.cA, .slice aJ nJ cJ] 63)) := hB1.trans (b1.mono hB1.size)
  have hr2 := hr.below hB2
  cases hnm : nameB x.nm
  · have HF : Hid (ruleB x = false) := by unfold Hid; rw [HC.out, hnm]; rfl
    go_wp2_with (go_at_call 15; refine (implNameOk_any _ _ hkd).mono ?_; rintro e w' ⟨rfl, rfl⟩; rw [hnm])
    go_ret
    exact ⟨by rw [HF.out]; rfl, hB2⟩
  · by_cases hsal : -100 ≤ x.sal ∧ x.sal ≤ 100
    · obtain ⟨k1, k2⟩ := hsal
      have HD : Hid (ruleB x = (patsI x.P && (decide (x.nC ≤ 6) && x.C.all (condI (posB x.P))) && (inB x.nA 1 6 && x.A.all (actI (posB x.P))))) := by unfold Hid; rw [HC.out, hnm, inB_t ⟨k1, k2⟩]; rfl
      clear HC
      go_wp2_with fail
      refine (implNameOk_any _ _ hkd).mono ?_
      rintro e w' ⟨rfl, rfl⟩
      rw [hnm]
      go_wp2_with fail
      generalize w1.alloc (.cells #[.string x.nm, .int .i64 x.sal, .slice x.aP x.nP x.cP, .slice x.aC x.nC x.cC, .slice x.aA x.nA x.cA, .slice aJ nJ cJ] 63) = w2 at hA2 hJ2 hB2 hr2 ⊢
      clear b1 hJ hB1
      refine (patsOk_any x aJ nJ cJ w2 hr2 hc s2 HNN.out hn).mono ?_
      rintro e w3 ⟨rfl, hb⟩
      have HA3 := hide (box_step hA2 hb)
      have HJ3 := hide (hJ2.below hb)
      have hB3 : Below w.heap.size w w3 := hB2.trans (hb.mono hB2.size)
      have HR3 := hide (hr2.below hb)
      clear hb hA2 hJ2 hB2 hr2
      generalize patsI x.P = bb at HD ⊢
      cases bb
      · go_wp2
        go_ret
        exact ⟨by rw [HD.out]; rfl, hB3⟩
      · have a0 := boxk_cell HA3.out 0 _ rfl
        have a1 := boxk_cell HA3.out 1 _ rfl
        have a2 := boxk_cell HA3.out 2 _ rfl
        have a3 := boxk_cell HA3.out 3 _ rfl
        have a4 := boxk_cell HA3.out 4 _ rfl
        have a5 := boxk_cell HA3.out 5 _ rfl
        have hmf : ∀ (fn : Fn) (first cap : Array Value) (w : World), (Instr.makeFunc fn first cap).run Tryz.prog w = .ok (.func fn first cap) w := fun _ _ _ _ => rfl
        go_wp2_with fail
        refine (listC_any x.aC x.cC x.nC x.C aJ nJ cJ (posB x.P) x _ hr.nc HR3.out.c HNN.out HJ3.out hsJ (by omega) s3 (by omega)).mono ?_
        rintro e w4 ⟨rfl, hb⟩
        have HA4 := hide (box_step HA3.out hb)
        have HJ4 := hide (HJ3.out.below hb)
        have hB4 : Below w.heap.size w w4 := hB3.trans (hb.mono hB3.size)
        have HR4 := hide (HR3.out.below hb)
        clear hb HA3 HJ3 hB3 HR3 a0 a1 a2 a3 a4 a5
        generalize (decide (x.nC ≤ 6) && x.C.all (condI (posB x.P))) = bb at HD ⊢
        cases bb
        · go_wp2
          go_ret
          exact ⟨by rw [HD.out]; rfl, hB4⟩
        · have a0 := boxk_cell HA4.out 0 _ rfl
          have a1 := boxk_cell HA4.out 1 _ rfl
          have a2 := boxk_cell HA4.out 2 _ rfl
          have a3 := boxk_cell HA4.out 3 _ rfl
          have a4 := boxk_cell HA4.out 4 _ rfl
          have a5 := boxk_cell HA4.out 5 _ rfl
          go_wp2_with fail
          refine (listQ_any x.aA x.cA x.nA x.A aJ nJ cJ (posB x.P) x _ hr.na HR4.out.a HNN.out HJ4.out hsJ (by omega) s4 (by omega)).mono ?_
          rintro e w5 ⟨rfl, hb⟩
          have hB5 : Below w.heap.size w w5 := hB4.trans (hb.mono hB4.size)
          clear hb HA4 HJ4 hB4 HR4 a0 a1 a2 a3 a4 a5
          generalize (inB x.nA 1 6 && x.A.all (actI (posB x.P))) = bb at HD ⊢
          go_wp2
          go_ret
          exact ⟨by rw [HD.out]; rfl, hB5⟩
    · have HF : Hid (ruleB x = false) := by unfold Hid; rw [HC.out, hnm, inB_f hsal]; rfl
      by_cases k1 : -100 ≤ x.sal
      · have k2 : ¬ (x.sal ≤ 100) := fun h => hsal ⟨k1, h⟩
        clear hsal
        go_wp2_with (go_at_call 15; refine (implNameOk_any _ _ hkd).mono ?_; rintro e w' ⟨rfl, rfl⟩; rw [hnm])
        go_ret
        exact ⟨by rw [HF.out]; rfl, hB2⟩
      · clear hsal
        go_wp2_with (go_at_call 15; refine (implNameOk_any _ _ hkd).mono ?_; rintro e w' ⟨rfl, rfl⟩; rw [hnm])
        go_ret
        exact ⟨by rw [HF.out]; rfl, hB2⟩

end Go.Proofs.YtcfhpcbkdpgboaaGreat
