/-
  Texts of this claim joined into one: RuleOkI, DefOkI, ValP, L2Num, TabT, ValT, VOk, TxV, FactOk, FactT, ArgT, PatT, ArgTI, CondT, ExprT, ExprJ, Words, SumD, ActT, RuleT.
-/
import Derived.Test.YtcfhpcbkdpgboaaGreatDoorJoined3
import Derived.Test.YtcfhpcbkdpgboaaGreatDoorJoined1
import Derived.Lib.ItoaLen
import Derived.Lib.AtoiTie
import Derived.Test.YtcfhpcbkdpgboaaGreatDoorJoined2
import Derived.Laws.IdiomStrings
import Derived.Lib.AppendIntMem
import Derived.Lib.SmallJoins
import Derived.Test.YtcfhpcbkdpgboaaGreatDoorShelf
import Derived.Lib.Join
import Derived.Deep.AppendLies
import Derived.Deep.RegionHeld3
import Derived.OwnWalk
import Derived.Lib.LaidTab
/-
  What the tested RuleOk answers: ruleB.
-/
namespace Go.Proofs.YtcfhpcbkdpgboaaGreatDoor
open Go.RowKit
set_option linter.unusedVariables false

theorem eAt_take {α : Type} [Inhabited α] {L : List α} {n i : Nat} (h : i < n) (h2 : i < L.length) : eAt (L.take n) i = eAt L i := by
  rw [eAt_in (by rw [List.length_take]; omega), eAt_in h2, List.getElem_take]
theorem OwnRule.capP {w : World} {lo hi : Nat} {x : RE} (h : OwnRule w lo hi x) : x.nP ≤ x.cP := by
  obtain ⟨gP, gC, gA, m1, m2, e1, o1, -⟩ := h.own
  have := OwnK.cap o1.own
  rw [← h.np]; exact this
theorem RdPatS.take {w : World} {a : Option Addr} {J : List PE} (h : RdPatS w a J) (n : Nat) : RdPatS w a (J.take n) :=
  ⟨RdK.take (M := J.drop n) (by rw [List.take_append_drop]; exact h.1), fun i hi => by
    have hi2 := hi
    rw [List.length_take] at hi2
    rw [eAt_take (by omega) (by omega)]
    exact h.2 i (by omega)⟩

set_option maxRecDepth 100000 in
set_option maxHeartbeats 3200000 in
theorem patsOk_any (x : RE) (aJ : Option Addr) (nJ cJ : Nat) (w : World) (hr : RdRule w x) (hc : x.nP ≤ x.cP) (hs : ∀ p ∈ x.P, p.small) (hzJ : (posB x.P).length = nJ) (hn : x.nP ≤ 1048576) :
    Calls Tryz.prog 61 #[.agg #[.string x.nm, .int .i64 x.sal, .slice x.aP x.nP x.cP, .slice x.aC x.nC x.cC, .slice x.aA x.nA x.cA, .slice aJ nJ cJ]] w fun e w' => e = .returned (.bool (patsI x.P)) ∧ Below w.heap.size w w' := by
  have HC : Hid (patsI x.P = ((inB x.nP 1 6 && x.P.all PE.okB) && (inB nJ 1 3 && (x.P.take nJ).all PE.pos))) := by unfold Hid patsI; rw [hzJ, hr.np]; rfl
  have hl := posB_len x.P
  rw [hzJ, hr.np] at hl
  have htl : (x.P.take nJ).length = nJ := by rw [List.length_take, hr.np]; omega
  have b1 := below_al w (.cells #[.string x.nm, .int .i64 x.sal, .slice x.aP x.nP x.cP, .slice x.aC x.nC x.cC, .slice x.aA x.nA x.cA, .slice aJ nJ cJ] 98)
  have hA0 := boxk_new w #[.string x.nm, .int .i64 x.sal, .slice x.aP x.nP x.cP, .slice x.aC x.nC x.cC, .slice x.aA x.nA x.cA, .slice aJ nJ cJ] 98
  go_enter Tryz.func61, Tryz.ntmps61
  go_wp2
  generalize w.alloc (.cells #[.string x.nm, .int .i64 x.sal, .slice x.aP x.nP x.cP, .slice x.aC x.nC x.cC, .slice x.aA x.nA x.cA, .slice aJ nJ cJ] 98) = w0 at hA0 b1 ⊢
  have hA : w0.drew.heap[w.heap.size]? = some (.cells #[.string x.nm, .int .i64 x.sal, .slice x.aP x.nP x.cP, .slice x.aC x.nC x.cC, .slice x.aA x.nA x.cA, .slice aJ nJ cJ] 98 (0, 0)) := hA0
  have hrd : RdPatS w0.drew x.aP x.P := (hr.p.below b1).heap rfl
  have b1d := b1.drew
  cases hok : (inB x.nP 1 6 && x.P.all PE.okB)
  · have HF : Hid (patsI x.P = false) := by unfold Hid; rw [HC.out, hok]; rfl
    refine wp_region_held_drew (S := fun W => W.cell? ⟨w.heap.size, 0, none⟩ = some (.string x.nm) ∧ W.cell? ⟨w.heap.size, 1, none⟩ = some (.int .i64 x.sal) ∧ W.cell? ⟨w.heap.size, 2, none⟩ = some (.slice x.aP x.nP x.cP) ∧ W.cell? ⟨w.heap.size, 3, none⟩ = some (.slice x.aC x.nC x.cC) ∧ W.cell? ⟨w.heap.size, 4, none⟩ = some (.slice x.aA x.nA x.cA) ∧ W.cell? ⟨w.heap.size, 5, none⟩ = some (.slice aJ nJ cJ)) (by kernel_rfl) ⟨boxk_cell hA 0 _ rfl, boxk_cell hA 1 _ rfl, boxk_cell hA 2 _ rfl, boxk_cell hA 3 _ rfl, boxk_cell hA 4 _ rfl, boxk_cell hA 5 _ rfl⟩ (fun hHeld => ?_)
    refine wpAnyH_take (i := 0) (oi := Oper.mk (some 3) _ _ _ _ _) (v := ?v58) rfl (by kernel_rfl) (by kernel_rfl) (by kernel_rfl) (fun _ _ _ h => h) (Or.inl ⟨by rfl, ?y58⟩) hHeld ?r58
    case y58 => (intro W hSW; obtain ⟨q0, q1, q2, q3, q4, q5⟩ := hSW; go_simp; try with_reducible rfl)
    simp only [Act.put, List.setIfInBounds_toArray, List.set_cons_zero, List.set_cons_succ]
    refine wpAnyH_take (i := 1) (oi := Oper.mk (some 4) _ _ _ _ _) (v := ?v59) rfl (by kernel_rfl) (by kernel_rfl) (by kernel_rfl) (fun _ _ _ h => h) (Or.inl ⟨by rfl, ?y59⟩) hHeld ?r59
    case y59 => (intro W hSW; obtain ⟨q0, q1, q2, q3, q4, q5⟩ := hSW; go_simp; try with_reducible rfl)
    simp only [Act.put, List.setIfInBounds_toArray, List.set_cons_zero, List.set_cons_succ]
    refine wpAnyH_take (i := 2) (oi := Oper.mk (some 5) _ _ _ _ _) (v := ?v60) rfl (by kernel_rfl) (by kernel_rfl) (by kernel_rfl) (fun _ _ _ h => h) (Or.inl ⟨by rfl, ?y60⟩) hHeld ?r60
    case y60 => (intro W hSW; obtain ⟨q0, q1, q2, q3, q4, q5⟩ := hSW; go_simp; try with_reducible rfl)
    simp only [Act.put, List.setIfInBounds_toArray, List.set_cons_zero, List.set_cons_succ]
    refine wpAnyH_ready (rs := [3]) (by kernel_rfl) (by simp) (AllReadyH.cons (o := Oper.mk (some 6) _ _ _ _ _) rfl (fun Kk hK => ?_) AllReadyH.nil)
    go_simp
    refine (listP_any x.aP x.cP x.nP x.P _ hr.np hrd hs (by omega)).mono ?_
    rintro e u1 ⟨rfl, hb⟩
    rw [hok]
    have A1 := box_step hA hb
    have B1 := b1d.trans (hb.mono b1d.size)
    have R1 := hrd.below hb
    clear hb
    refine hK.out _ _ ⟨boxk_cell A1 0 _ rfl, boxk_cell A1 1 _ rfl, boxk_cell A1 2 _ rfl, boxk_cell A1 3 _ rfl, boxk_cell A1 4 _ rfl, boxk_cell A1 5 _ rfl⟩ (fun hHeld => ?_)
    clear hK Kk
    refine wpAnyH_take (i := 4) (oi := Oper.mk (some 7) _ _ _ _ _) (v := ?v61) rfl (by kernel_rfl) (by kernel_rfl) (by kernel_rfl) (fun _ _ _ h => h) (Or.inl ⟨by rfl, ?y61⟩) hHeld ?r61
    case y61 => (intro W hSW; obtain ⟨q0, q1, q2, q3, q4, q5⟩ := hSW; go_simp; try with_reducible rfl)
    simp only [Act.put, List.setIfInBounds_toArray, List.set_cons_zero, List.set_cons_succ]
    refine wpAnyH_take (i := 5) (oi := Oper.mk (some 8) _ _ _ _ _) (v := undef) rfl (by kernel_rfl) (by kernel_rfl) (by kernel_rfl) (fun _ _ _ h => h) (Or.inr ⟨by rfl, rfl⟩) hHeld ?_
    simp only [Act.put, List.setIfInBounds_toArray, List.set_cons_zero, List.set_cons_succ]
    refine wpAnyH_take (i := 6) (oi := Oper.mk (some 9) _ _ _ _ _) (v := undef) rfl (by kernel_rfl) (by kernel_rfl) (by kernel_rfl) (fun _ _ _ h => h) (Or.inr ⟨by rfl, rfl⟩) hHeld ?_
    simp only [Act.put, List.setIfInBounds_toArray, List.set_cons_zero, List.set_cons_succ]
    refine wpAnyH_take (i := 7) (oi := Oper.mk (some 10) _ _ _ _ _) (v := undef) rfl (by kernel_rfl) (by kernel_rfl) (by kernel_rfl) (fun _ _ _ h => h) (Or.inr ⟨by rfl, rfl⟩) hHeld ?_
    simp only [Act.put, List.setIfInBounds_toArray, List.set_cons_zero, List.set_cons_succ]
    refine wpAnyH_take (i := 8) (oi := Oper.mk (some 11) _ _ _ _ _) (v := undef) rfl (by kernel_rfl) (by kernel_rfl) (by kernel_rfl) (fun _ _ _ h => h) (Or.inr ⟨by rfl, rfl⟩) hHeld ?_
    simp only [Act.put, List.setIfInBounds_toArray, List.set_cons_zero, List.set_cons_succ]
    refine wpAnyH_take (i := 9) (oi := Oper.mk (some 12) _ _ _ _ _) (v := undef) rfl (by kernel_rfl) (by kernel_rfl) (by kernel_rfl) (fun _ _ _ h => h) (Or.inr ⟨by rfl, rfl⟩) hHeld ?_
    simp only [Act.put, List.setIfInBounds_toArray, List.set_cons_zero, List.set_cons_succ]
    refine wpAnyH_take (i := 10) (oi := Oper.mk (some 13) _ _ _ _ _) (v := undef) rfl (by kernel_rfl) (by kernel_rfl) (by kernel_rfl) (fun _ _ _ h => h) (Or.inr ⟨by rfl, rfl⟩) hHeld ?_
    simp only [Act.put, List.setIfInBounds_toArray, List.set_cons_zero, List.set_cons_succ]
    refine wpAnyH_take (i := 11) (oi := Oper.mk (some 14) _ _ _ _ _) (v := undef) rfl (by kernel_rfl) (by kernel_rfl) (by kernel_rfl) (fun _ _ _ h => h) (Or.inr ⟨by rfl, rfl⟩) hHeld ?_
    simp only [Act.put, List.setIfInBounds_toArray, List.set_cons_zero, List.set_cons_succ]
    refine wpAnyH_take (i := 12) (oi := Oper.mk (some 15) _ _ _ _ _) (v := undef) rfl (by kernel_rfl) (by kernel_rfl) (by kernel_rfl) (fun _ _ _ h => h) (Or.inr ⟨by rfl, rfl⟩) hHeld ?_
    simp only [Act.put, List.setIfInBounds_toArray, List.set_cons_zero, List.set_cons_succ]
    refine wpAnyH_take (i := 13) (oi := Oper.mk (some 16) _ _ _ _ _) (v := ?v62) rfl (by kernel_rfl) (by kernel_rfl) (by kernel_rfl) (fun _ _ _ h => h) (Or.inl ⟨by rfl, ?y62⟩) hHeld ?r62
    case y62 => (intro W hSW; obtain ⟨q0, q1, q2, q3, q4, q5⟩ := hSW; go_simp; try with_reducible rfl)
    simp only [Act.put, List.setIfInBounds_toArray, List.set_cons_zero, List.set_cons_succ]
    refine wpAnyH_take (i := 14) (oi := Oper.mk (some 2) _ _ _ _ _) (v := ?v63) rfl (by kernel_rfl) (by kernel_rfl) (by kernel_rfl) (fun _ _ _ h => h) (Or.inl ⟨by rfl, ?y63⟩) hHeld ?r63
    case y63 => (intro W hSW; obtain ⟨q0, q1, q2, q3, q4, q5⟩ := hSW; go_simp; try with_reducible rfl)
    simp only [Act.put, List.setIfInBounds_toArray, List.set_cons_zero, List.set_cons_succ]
    refine wpAnyH_done (by kernel_rfl) ?_ _
    go_wp2
    go_ret
    exact ⟨by rw [HF.out]; rfl, B1⟩
  · have HF : Hid (patsI x.P = (inB nJ 1 3 && (x.P.take nJ).all PE.pos)) := by unfold Hid; rw [HC.out, hok]; rfl
    have h1 : 1 ≤ x.nP := by
      simp only [Bool.and_eq_true, inB_iff] at hok
      omega
    have i0 : (0 : Int) ≤ (nJ : Int) := by omega
    have i1 : (nJ : Int) ≤ (x.cP : Int) := by omega
    have i2 : ¬ (x.cP = 0) := by omega
    refine wp_region_held_drew (S := fun W => W.cell? ⟨w.heap.size, 0, none⟩ = some (.string x.nm) ∧ W.cell? ⟨w.heap.size, 1, none⟩ = some (.int .i64 x.sal) ∧ W.cell? ⟨w.heap.size, 2, none⟩ = some (.slice x.aP x.nP x.cP) ∧ W.cell? ⟨w.heap.size, 3, none⟩ = some (.slice x.aC x.nC x.cC) ∧ W.cell? ⟨w.heap.size, 4, none⟩ = some (.slice x.aA x.nA x.cA) ∧ W.cell? ⟨w.heap.size, 5, none⟩ = some (.slice aJ nJ cJ)) (by kernel_rfl) ⟨boxk_cell hA 0 _ rfl, boxk_cell hA 1 _ rfl, boxk_cell hA 2 _ rfl, boxk_cell hA 3 _ rfl, boxk_cell hA 4 _ rfl, boxk_cell hA 5 _ rfl⟩ (fun hHeld => ?_)
    refine wpAnyH_take (i := 0) (oi := Oper.mk (some 3) _ _ _ _ _) (v := ?v64) rfl (by kernel_rfl) (by kernel_rfl) (by kernel_rfl) (fun _ _ _ h => h) (Or.inl ⟨by rfl, ?y64⟩) hHeld ?r64
    case y64 => (intro W hSW; obtain ⟨q0, q1, q2, q3, q4, q5⟩ := hSW; go_simp; try with_reducible rfl)
    simp only [Act.put, List.setIfInBounds_toArray, List.set_cons_zero, List.set_cons_succ]
    refine wpAnyH_take (i := 1) (oi := Oper.mk (some 4) _ _ _ _ _) (v := ?v65) rfl (by kernel_rfl) (by kernel_rfl) (by kernel_rfl) (fun _ _ _ h => h) (Or.inl ⟨by rfl, ?y65⟩) hHeld ?r65
    case y65 => (intro W hSW; obtain ⟨q0, q1, q2, q3, q4, q5⟩ := hSW; go_simp; try with_reducible rfl)
    simp only [Act.put, List.setIfInBounds_toArray, List.set_cons_zero, List.set_cons_succ]
    refine wpAnyH_take (i := 2) (oi := Oper.mk (some 5) _ _ _ _ _) (v := ?v66) rfl (by kernel_rfl) (by kernel_rfl) (by kernel_rfl) (fun _ _ _ h => h) (Or.inl ⟨by rfl, ?y66⟩) hHeld ?r66
    case y66 => (intro W hSW; obtain ⟨q0, q1, q2, q3, q4, q5⟩ := hSW; go_simp; try with_reducible rfl)
    simp only [Act.put, List.setIfInBounds_toArray, List.set_cons_zero, List.set_cons_succ]
    refine wpAnyH_ready (rs := [3]) (by kernel_rfl) (by simp) (AllReadyH.cons (o := Oper.mk (some 6) _ _ _ _ _) rfl (fun Kk hK => ?_) AllReadyH.nil)
    go_simp
    refine (listP_any x.aP x.cP x.nP x.P _ hr.np hrd hs (by omega)).mono ?_
    rintro e u1 ⟨rfl, hb⟩
    rw [hok]
    have A1 := box_step hA hb
    have B1 := b1d.trans (hb.mono b1d.size)
    have R1 := hrd.below hb
    clear hb
    refine hK.out _ _ ⟨boxk_cell A1 0 _ rfl, boxk_cell A1 1 _ rfl, boxk_cell A1 2 _ rfl, boxk_cell A1 3 _ rfl, boxk_cell A1 4 _ rfl, boxk_cell A1 5 _ rfl⟩ (fun hHeld => ?_)
    clear hK Kk
    refine wpAnyH_take (i := 4) (oi := Oper.mk (some 7) _ _ _ _ _) (v := ?v67) rfl (by kernel_rfl) (by kernel_rfl) (by kernel_rfl) (fun _ _ _ h => h) (Or.inl ⟨by rfl, ?y67⟩) hHeld ?r67
    case y67 => (intro W hSW; obtain ⟨q0, q1, q2, q3, q4, q5⟩ := hSW; go_simp; try with_reducible rfl)
    simp only [Act.put, List.setIfInBounds_toArray, List.set_cons_zero, List.set_cons_succ]
    refine wpAnyH_take (i := 5) (oi := Oper.mk (some 8) _ _ _ _ _) (v := ?v68) rfl (by kernel_rfl) (by kernel_rfl) (by kernel_rfl) (fun _ _ _ h => h) (Or.inl ⟨by rfl, ?y68⟩) hHeld ?r68
    case y68 => (intro W hSW; obtain ⟨q0, q1, q2, q3, q4, q5⟩ := hSW; go_simp; try with_reducible rfl)
    simp only [Act.put, List.setIfInBounds_toArray, List.set_cons_zero, List.set_cons_succ]
    refine wpAnyH_take (i := 6) (oi := Oper.mk (some 9) _ _ _ _ _) (v := ?v69) rfl (by kernel_rfl) (by kernel_rfl) (by kernel_rfl) (fun _ _ _ h => h) (Or.inl ⟨by rfl, ?y69⟩) hHeld ?r69
    case y69 => (intro W hSW; obtain ⟨q0, q1, q2, q3, q4, q5⟩ := hSW; go_simp; try with_reducible rfl)
    simp only [Act.put, List.setIfInBounds_toArray, List.set_cons_zero, List.set_cons_succ]
    refine wpAnyH_take (i := 7) (oi := Oper.mk (some 10) _ _ _ _ _) (v := ?v70) rfl (by kernel_rfl) (by kernel_rfl) (by kernel_rfl) (fun _ _ _ h => h) (Or.inl ⟨by rfl, ?y70⟩) hHeld ?r70
    case y70 => (intro W hSW; obtain ⟨q0, q1, q2, q3, q4, q5⟩ := hSW; go_simp; try with_reducible rfl)
    simp only [Act.put, List.setIfInBounds_toArray, List.set_cons_zero, List.set_cons_succ]
    refine wpAnyH_take (i := 8) (oi := Oper.mk (some 11) _ _ _ _ _) (v := ?v71) rfl (by kernel_rfl) (by kernel_rfl) (by kernel_rfl) (fun _ _ _ h => h) (Or.inl ⟨by rfl, ?y71⟩) hHeld ?r71
    case y71 => (intro W hSW; obtain ⟨q0, q1, q2, q3, q4, q5⟩ := hSW; go_simp; try with_reducible rfl)
    simp only [Act.put, List.setIfInBounds_toArray, List.set_cons_zero, List.set_cons_succ]
    refine wpAnyH_take (i := 9) (oi := Oper.mk (some 12) _ _ _ _ _) (v := ?v72) rfl (by kernel_rfl) (by kernel_rfl) (by kernel_rfl) (fun _ _ _ h => h) (Or.inl ⟨by rfl, ?y72⟩) hHeld ?r72
    case y72 => (intro W hSW; obtain ⟨q0, q1, q2, q3, q4, q5⟩ := hSW; go_simp; try with_reducible rfl)
    simp only [Act.put, List.setIfInBounds_toArray, List.set_cons_zero, List.set_cons_succ]
    refine wpAnyH_ready (rs := [10]) (by kernel_rfl) (by simp) (AllReadyH.cons (o := Oper.mk (some 13) _ _ _ _ _) rfl (fun Kk hK => ?_) AllReadyH.nil)
    go_simp
    refine (count_any aJ nJ cJ _ (by omega)).mono ?_
    rintro e u2 ⟨rfl, rfl⟩
    refine hK.out _ _ ⟨boxk_cell A1 0 _ rfl, boxk_cell A1 1 _ rfl, boxk_cell A1 2 _ rfl, boxk_cell A1 3 _ rfl, boxk_cell A1 4 _ rfl, boxk_cell A1 5 _ rfl⟩ (fun hHeld => ?_)
    clear hK Kk
    refine wpAnyH_take (i := 11) (oi := Oper.mk (some 14) _ _ _ _ _) (v := ?v73) rfl (by kernel_rfl) (by kernel_rfl) (by kernel_rfl) (fun _ _ _ h => h) (Or.inl ⟨by rfl, ?y73⟩) hHeld ?r73
    case y73 => (intro W hSW; obtain ⟨q0, q1, q2, q3, q4, q5⟩ := hSW; go_simp; try with_reducible rfl)
    simp only [Act.put, List.setIfInBounds_toArray, List.set_cons_zero, List.set_cons_succ]
    refine wpAnyH_ready (rs := [12]) (by kernel_rfl) (by simp) (AllReadyH.cons (o := Oper.mk (some 15) _ _ _ _ _) rfl (fun Kk hK => ?_) AllReadyH.nil)
    go_simp
    refine (listB_any x.aP x.cP nJ (x.P.take nJ) _ htl (R1.take nJ) (by omega)).mono ?_
    rintro e u3 ⟨rfl, hb⟩
    have A3 := box_step A1 hb
    have B3 := B1.trans (hb.mono B1.size)
    clear hb
    refine hK.out _ _ ⟨boxk_cell A3 0 _ rfl, boxk_cell A3 1 _ rfl, boxk_cell A3 2 _ rfl, boxk_cell A3 3 _ rfl, boxk_cell A3 4 _ rfl, boxk_cell A3 5 _ rfl⟩ (fun hHeld => ?_)
    clear hK Kk
    refine wpAnyH_take (i := 13) (oi := Oper.mk (some 16) _ _ _ _ _) (v := ?v74) rfl (by kernel_rfl) (by kernel_rfl) (by kernel_rfl) (fun _ _ _ h => h) (Or.inl ⟨by rfl, ?y74⟩) hHeld ?r74
    case y74 => (intro W hSW; obtain ⟨q0, q1, q2, q3, q4, q5⟩ := hSW; go_simp; try with_reducible rfl)
    simp only [Act.put, List.setIfInBounds_toArray, List.set_cons_zero, List.set_cons_succ]
    refine wpAnyH_take (i := 14) (oi := Oper.mk (some 2) _ _ _ _ _) (v := ?v75) rfl (by kernel_rfl) (by kernel_rfl) (by kernel_rfl) (fun _ _ _ h => h) (Or.inl ⟨by rfl, ?y75⟩) hHeld ?r75
    case y75 => (intro W hSW; obtain ⟨q0, q1, q2, q3, q4, q5⟩ := hSW; go_simp; try with_reducible rfl)
    simp only [Act.put, List.setIfInBounds_toArray, List.set_cons_zero, List.set_cons_succ]
    refine wpAnyH_done (by kernel_rfl) ?_ _
    go_wp2
    go_ret
    exact ⟨by rw [HF.out]; rfl, B3⟩

set_option maxRecDepth 100000 in
set_option maxHeartbeats 3200000 in
theorem implRuleOk_any (x : RE) (w : World) (hr : RdRule w x) (hs : x.small) (hc : x.nP ≤ x.cP) :
    Calls Tryz.prog 29 #[.agg #[.string x.nm, .int .i64 x.sal, .slice x.aP x.nP x.cP, .slice x.aC x.nC x.cC, .slice x.aA x.nA x.cA]] w fun e w' =>
      e = .returned (.bool (ruleB x)) ∧ Below w.heap.size w w' := by
  have HC : Hid (ruleB x = (nameB x.nm && inB x.sal (-100) 100 && patsI x.P && (decide (x.nC ≤ 6) && x.C.all (condI (posB x.P))) && (inB x.nA 1 6 && x.A.all (actI (posB x.P))))) := by
    unfold Hid
    rw [ruleB_I, ← hr.nc, ← hr.na]; rfl
  obtain ⟨s1, s2, s3, s4⟩ := hs
  unfold RE.sz at s1
  have hn : x.nP ≤ 1048576 := by rw [← hr.np]; omega
  have hnC : x.nC ≤ 1048576 := by rw [← hr.nc]; omega
  have hnA : x.nA ≤ 1048576 := by rw [← hr.na]; omega
  have hkd : x.nm.size ≤ maxLen := by unfold maxLen; omega
  have hlJ := posB_len x.P
  rw [hr.np] at hlJ
  have hsJ : ∀ p ∈ posB x.P, p.small := fun p hp => s2 p (List.mem_filter.1 hp).1
  clear s1
  have b0 := below_al w (.cells #[.string x.nm, .int .i64 x.sal, .slice x.aP x.nP x.cP, .slice x.aC x.nC x.cC, .slice x.aA x.nA x.cA] 40)
  go_enter Tryz.func29, Tryz.ntmps29
  go_wp2_with fail
  refine (boundRuleOf_any x _ (hr.below b0) hn).mono ?_
  rintro e w1 ⟨aJ, cJ, rfl, hJ, hb⟩
  have hB1 : Below w.heap.size w w1 := b0.trans (hb.mono b0.size)
  clear hb b0
  obtain ⟨nJ, hnn⟩ : ∃ nJ, (posB x.P).length = nJ := ⟨_, rfl⟩
  rw [hnn] at hlJ ⊢
  have HNN := hide hnn
  clear hnn
  have b1 := below_al w1 (.cells #[.string x.nm, .int .i64 x.sal, .slice x.aP x.nP x.cP, .slice x.aC x.nC x.cC, .slice x.aA x.nA x.cA, .slice aJ nJ cJ] 98)
  have hA2 := boxk_new w1 #[.string x.nm, .int .i64 x.sal, .slice x.aP x.nP x.cP, .slice x.aC x.nC x.cC, .slice x.aA x.nA x.cA, .slice aJ nJ cJ] 98
  have hJ2 := hJ.below b1
  have hB2 : Below w.heap.size w (w1.alloc (.cells #[.string x.nm, .int .i64 x.sal, .slice x.aP x.nP x.cP, .slice x.aC x.nC x.cC, .slice x.aA x.nA x.cA, .slice aJ nJ cJ] 98)) := hB1.trans (b1.mono hB1.size)
  have hr2 := hr.below hB2
  cases hnm : nameB x.nm
  · have HF : Hid (ruleB x = false) := by unfold Hid; rw [HC.out, hnm]; rfl
    go_wp2_with (go_at_call 27; refine (implNameOk_any _ _ hkd).mono ?_; rintro e w' ⟨rfl, rfl⟩; rw [hnm])
    go_ret
    exact ⟨by rw [HF.out]; rfl, hB2⟩
  · by_cases hsal : -100 ≤ x.sal ∧ x.sal ≤ 100
    · obtain ⟨k1, k2⟩ := hsal
      have HD : Hid (ruleB x = (patsI x.P && (decide (x.nC ≤ 6) && x.C.all (condI (posB x.P))) && (inB x.nA 1 6 && x.A.all (actI (posB x.P))))) := by unfold Hid; rw [HC.out, hnm, inB_t ⟨k1, k2⟩]; rfl
      clear HC
      go_wp2_with fail
      refine (implNameOk_any _ _ hkd).mono ?_
      rintro e w' ⟨rfl, rfl⟩
      rw [hnm]
      go_wp2_with fail
      generalize w1.alloc (.cells #[.string x.nm, .int .i64 x.sal, .slice x.aP x.nP x.cP, .slice x.aC x.nC x.cC, .slice x.aA x.nA x.cA, .slice aJ nJ cJ] 98) = w2 at hA2 hJ2 hB2 hr2 ⊢
      clear b1 hJ hB1
      refine (patsOk_any x aJ nJ cJ w2 hr2 hc s2 HNN.out hn).mono ?_
      rintro e w3 ⟨rfl, hb⟩
      have HA3 := hide (box_step hA2 hb)
      have HJ3 := hide (hJ2.below hb)
      have hB3 : Below w.heap.size w w3 := hB2.trans (hb.mono hB2.size)
      have HR3 := hide (hr2.below hb)
      clear hb hA2 hJ2 hB2 hr2
      generalize patsI x.P = bb at HD ⊢
      cases bb
      · go_wp2
        go_ret
        exact ⟨by rw [HD.out]; rfl, hB3⟩
      · have a0 := boxk_cell HA3.out 0 _ rfl
        have a1 := boxk_cell HA3.out 1 _ rfl
        have a2 := boxk_cell HA3.out 2 _ rfl
        have a3 := boxk_cell HA3.out 3 _ rfl
        have a4 := boxk_cell HA3.out 4 _ rfl
        have a5 := boxk_cell HA3.out 5 _ rfl
        have hmf : ∀ (fn : Fn) (first cap : Array Value) (w : World), (Instr.makeFunc fn first cap).run Tryz.prog w = .ok (.func fn first cap) w := fun _ _ _ _ => rfl
        go_wp2_with fail
        refine (listC_any x.aC x.cC x.nC x.C aJ nJ cJ (posB x.P) x _ hr.nc HR3.out.c HNN.out HJ3.out hsJ (by omega) s3 (by omega)).mono ?_
        rintro e w4 ⟨rfl, hb⟩
        have HA4 := hide (box_step HA3.out hb)
        have HJ4 := hide (HJ3.out.below hb)
        have hB4 : Below w.heap.size w w4 := hB3.trans (hb.mono hB3.size)
        have HR4 := hide (HR3.out.below hb)
        clear hb HA3 HJ3 hB3 HR3 a0 a1 a2 a3 a4 a5
        generalize (decide (x.nC ≤ 6) && x.C.all (condI (posB x.P))) = bb at HD ⊢
        cases bb
        · go_wp2
          go_ret
          exact ⟨by rw [HD.out]; rfl, hB4⟩
        · have a0 := boxk_cell HA4.out 0 _ rfl
          have a1 := boxk_cell HA4.out 1 _ rfl
          have a2 := boxk_cell HA4.out 2 _ rfl
          have a3 := boxk_cell HA4.out 3 _ rfl
          have a4 := boxk_cell HA4.out 4 _ rfl
          have a5 := boxk_cell HA4.out 5 _ rfl
          go_wp2_with fail
          refine (listQ_any x.aA x.cA x.nA x.A aJ nJ cJ (posB x.P) x _ hr.na HR4.out.a HNN.out HJ4.out hsJ (by omega) s4 (by omega)).mono ?_
          rintro e w5 ⟨rfl, hb⟩
          have hB5 : Below w.heap.size w w5 := hB4.trans (hb.mono hB4.size)
          clear hb HA4 HJ4 hB4 HR4 a0 a1 a2 a3 a4 a5
          generalize (inB x.nA 1 6 && x.A.all (actI (posB x.P))) = bb at HD ⊢
          go_wp2
          go_ret
          exact ⟨by rw [HD.out]; rfl, hB5⟩
    · have HF : Hid (ruleB x = false) := by unfold Hid; rw [HC.out, hnm, inB_f hsal]; rfl
      by_cases k1 : -100 ≤ x.sal
      · have k2 : ¬ (x.sal ≤ 100) := fun h => hsal ⟨k1, h⟩
        clear hsal
        go_wp2_with (go_at_call 27; refine (implNameOk_any _ _ hkd).mono ?_; rintro e w' ⟨rfl, rfl⟩; rw [hnm])
        go_ret
        exact ⟨by rw [HF.out]; rfl, hB2⟩
      · clear hsal
        go_wp2_with (go_at_call 27; refine (implNameOk_any _ _ hkd).mono ?_; rintro e w' ⟨rfl, rfl⟩; rw [hnm])
        go_ret
        exact ⟨by rw [HF.out]; rfl, hB2⟩

end Go.Proofs.YtcfhpcbkdpgboaaGreatDoor
/-
  When a definition is right (defB), plainly; what the tested DefOk answers.
-/
namespace Go.Proofs.YtcfhpcbkdpgboaaGreatDoor
open Go.RowKit
set_option linter.unusedVariables false

/-- a later rule of one name would not be at its own place -/
def firstB (L : List RE) : Bool := (List.range L.length).all (fun i => decide (ixOf L (eAt L i).nm = (i : Int)))
def defB (x : DE) : Bool := nameB x.nm && inB x.nR 1 12 && x.R.all ruleB && firstB x.R
theorem firstB_pl {K J : List RE} (h : K.map RE.pl = J.map RE.pl) : firstB K = firstB J := by
  have hl := map_len h
  rw [Bool.eq_iff_iff]
  unfold firstB
  simp only [List.all_eq_true, List.mem_range, decide_eq_true_eq]
  constructor
  · intro g i hi
    have := g i (by omega)
    rw [← ixOf_pl h, ← (RE.pl_inj (map_at h (i := i) (by omega))).1]; exact this
  · intro g i hi
    have := g i (by omega)
    rw [ixOf_pl h, (RE.pl_inj (map_at h hi)).1]; exact this
theorem allR_pl {K J : List RE} (h : K.map RE.pl = J.map RE.pl) : K.all ruleB = J.all ruleB := by
  have hl := map_len h
  rw [Bool.eq_iff_iff, all_eAt, all_eAt]
  constructor
  · intro g i hi; rw [← ruleB_pl (map_at h (i := i) (by omega))]; exact g i (by omega)
  · intro g i hi; rw [ruleB_pl (map_at h hi)]; exact g i (by omega)
theorem defB_pl {x y : DE} (h : y.pl = x.pl) (hx : x.R.length = x.nR) (hy : y.R.length = y.nR) : defB y = defB x := by
  obtain ⟨e1, e2⟩ := DE.pl_inj h
  unfold defB
  rw [e1, allR_pl e2, firstB_pl e2, ← hx, ← hy, map_len e2]
theorem OwnDef.caps {w : World} {lo hi : Nat} {x : DE} (h : OwnDef w lo hi x) : ∀ r ∈ x.R, r.nP ≤ r.cP := fun r hr => by
  obtain ⟨g, e1, o1⟩ := h.own
  obtain ⟨i, hi', rfl⟩ := mem_eAt hr
  obtain ⟨s, e, l, hh, -, -, h4⟩ := o1.at hi'
  exact h4.capP
theorem cell_step {W w' : World} {a : Addr} {v : Value} (hb : Below W.heap.size W w') (h : W.cell? a = some v) : w'.cell? a = some v := by rw [hb.cell (World.block_lt_of_cell? W _ h)]; exact h

set_option maxRecDepth 100000 in
set_option maxHeartbeats 3200000 in
theorem listR_any (a : Option Addr) (n cap : Nat) (J : List RE) (w : World) (hz : J.length = n) (hr : RdRuleS w a J) (hs : ∀ r ∈ J, r.small) (hc : ∀ r ∈ J, r.nP ≤ r.cP) (hn : n ≤ 1048580) :
    Calls Tryz.prog 28 #[.slice a n cap, .int .i64 1, .int .i64 12, .func (.func 29) #[] #[]] w fun e w' =>
      e = .returned (.bool (inB n 1 12 && J.all ruleB)) ∧ Below w.heap.size w w' := by
  have HZ := hide hz
  have HS := hide hs
  have HC := hide hc
  clear hz hs hc
  by_cases h1 : n < 1
  · have HF : Hid ((inB n 1 12 && J.all ruleB) = false) := by unfold Hid inB; rw [decide_eq_false (by omega)]; rfl
    have h1i : (n : Int) < 1 := by omega
    go_enter Tryz.func28, Tryz.ntmps28
    go_wp2
    go_ret
    exact ⟨ret_bool HF.out.symm, Below.refl _ _⟩
  · have h1i : ¬ ((n : Int) < 1) := by omega
    by_cases h2 : 12 < n
    · have HF : Hid ((inB n 1 12 && J.all ruleB) = false) := by unfold Hid inB; rw [decide_eq_false (p := (n : Int) ≤ 12) (by omega)]; simp
      have h2i : (12 : Int) < (n : Int) := by omega
      go_enter Tryz.func28, Tryz.ntmps28
      go_wp2
      go_ret
      exact ⟨ret_bool HF.out.symm, Below.refl _ _⟩
    · have h2i : ¬ ((12 : Int) < (n : Int)) := by omega
      have HF : Hid ((inB n 1 12 && J.all ruleB) = J.all ruleB) := by unfold Hid inB; rw [decide_eq_true (by omega), decide_eq_true (by omega)]; rfl
      go_enter Tryz.func28, Tryz.ntmps28
      go_wp2
      go_loopw [23] (fun i wr => ∃ (k : Nat), k ≤ n ∧ i = .int .i64 k ∧ (∀ j, j < k → ruleB (eAt J j) = true) ∧ Below w.heap.size w wr) (fun i _ => n - (intOf i).toNat)
      case atStart => exact ⟨0, Nat.zero_le _, rfl, fun j hj => absurd hj (Nat.not_lt_zero _), Below.refl _ _⟩
      case round =>
        obtain ⟨k, hk, rfl, hall, hbel⟩ := hrel
        have HA := hide hall
        clear hall
        by_cases hlt : k < n
        · have hlL : k < J.length := by rw [HZ.out]; exact hlt
          obtain ⟨b, off, hab, hbw, hc⟩ := (hr.below hbel).cells (by omega)
          obtain ⟨c0, c1, c2, c3, c4, hin⟩ := hc k hlL
          clear hc
          subst hab
          have hS := HS.out _ (eAt_mem hlL)
          have hCp := HC.out _ (eAt_mem hlL)
          have HNk : Hid (ruleB (eAt J k) = true → ∀ j, j < k + 1 → ruleB (eAt J j) = true) := fun h j hj => by
            by_cases e : j = k
            · rw [e]; exact h
            · exact HA.out j (by omega)
          have HNo : Hid (ruleB (eAt J k) = false → J.all ruleB = false) := fun h => by
            rw [Bool.eq_false_iff]; intro ht
            rw [all_eAt.1 ht k hlL] at h; cases h
          have HIn := hide hin
          clear hin
          generalize eAt J k = y at c0 c1 c2 c3 c4 HIn hS hCp HNk HNo
          have b1 := below_al wr (.cells #[.string y.nm, .int .i64 y.sal, .slice y.aP y.nP y.cP, .slice y.aC y.nC y.cC, .slice y.aA y.nA y.cA] 40)
          have hbel1 : Below w.heap.size w (wr.alloc (.cells #[.string y.nm, .int .i64 y.sal, .slice y.aP y.nP y.cP, .slice y.aC y.nC y.cC, .slice y.aA y.nA y.cA] 40)) := hbel.trans (b1.mono hbel.size)
          go_wp2_with fail
          refine (implRuleOk_any y _ (HIn.out.below b1) hS hCp).mono ?_
          rintro e w2 ⟨rfl, hb2⟩
          have hbel2 : Below w.heap.size w w2 := hbel1.trans (hb2.mono hbel1.size)
          clear hb2 hbel1 b1 c0 c1 c2 c3 c4 HIn hS hCp hbel
          cases hv : ruleB y
          · have HV := hide (HNo.out hv)
            clear hv HNo HNk
            go_wp2
            go_ret
            exact ⟨ret_bool (by rw [HF.out, HV.out]), hbel2⟩
          · have HV := hide (HNk.out hv)
            clear hv HNo HNk
            go_wp2
            go_roundw
            case rel => exact ⟨k + 1, by omega, by go_num, HV.out, hbel2⟩
            case measure => simp [intOf]; omega
        · have HV : Hid (J.all ruleB = true) := by
            unfold Hid
            rw [all_eAt]; intro j hj
            rw [HZ.out] at hj
            exact HA.out j (by omega)
          go_wp2
          go_ret
          exact ⟨ret_bool (by rw [HF.out, HV.out]), hbel⟩

set_option maxRecDepth 100000 in
set_option maxHeartbeats 3200000 in
theorem eachFirst_any (dn : ByteArray) (aR : Option Addr) (n cR : Nat) (R : List RE) (w : World) (hz : R.length = n) (hr : RdRuleS w aR R) (hn : n ≤ 1048580) :
    Calls Tryz.prog 30 #[.agg #[.string dn, .slice aR n cR]] w fun e w' => e = .returned (.bool (firstB R)) ∧ Below w.heap.size w w' := by
  have HZ := hide hz
  clear hz
  have b0 := below_al w (.cells #[.string dn, .slice aR n cR] 29)
  have hA := boxk_new w #[.string dn, .slice aR n cR] 29
  have hz1 : w.heap.size < (w.alloc (.cells #[.string dn, .slice aR n cR] 29)).heap.size := by simp
  go_enter Tryz.func30, Tryz.ntmps30
  go_wp2
  generalize w.alloc (.cells #[.string dn, .slice aR n cR] 29) = w1 at b0 hA hz1 ⊢
  go_loopw [8] (fun i wr => ∃ (k : Nat), k ≤ n ∧ i = .int .i64 k ∧ (∀ j, j < k → ixOf R (eAt R j).nm = (j : Int)) ∧ Below w1.heap.size w1 wr) (fun i _ => n - (intOf i).toNat)
  case atStart => exact ⟨0, Nat.zero_le _, rfl, fun j hj => absurd hj (Nat.not_lt_zero _), Below.refl _ _⟩
  case round =>
    obtain ⟨k, hk, rfl, hall, hbel⟩ := hrel
    have HA := hide hall
    clear hall
    have HB1 := hide (b0.trans (hbel.mono b0.size))
    have HX := hide (box_below hA hbel hz1)
    by_cases hlt : k < n
    · have hlL : k < R.length := by rw [HZ.out]; exact hlt
      have HRa := hide (hr.below HB1.out)
      obtain ⟨b, off, hab, hbw, hc⟩ := HRa.out.cells (by omega)
      obtain ⟨c0, c1, c2, c3, c4, -⟩ := hc k hlL
      clear hc
      subst hab
      have HNk : Hid (ixOf R (eAt R k).nm = (k : Int) → ∀ j, j < k + 1 → ixOf R (eAt R j).nm = (j : Int)) := fun h j hj => by
        by_cases e : j = k
        · rw [e]; exact h
        · exact HA.out j (by omega)
      have HNo : Hid (ixOf R (eAt R k).nm ≠ (k : Int) → firstB R = false) := fun h => by
        rw [Bool.eq_false_iff]; intro ht
        unfold firstB at ht
        rw [List.all_eq_true] at ht
        exact h (of_decide_eq_true (ht k (List.mem_range.2 hlL)))
      generalize eAt R k = y at c0 c1 c2 c3 c4 HNk HNo
      have b1 := below_al wr (.cells #[.string y.nm, .int .i64 y.sal, .slice y.aP y.nP y.cP, .slice y.aC y.nC y.cC, .slice y.aA y.nA y.cA] 40)
      have HX1 := hide (box_step HX.out b1)
      have a0 := boxk_cell HX1.out 0 _ rfl
      have a1 := boxk_cell HX1.out 1 _ rfl
      have HB2 := hide (hbel.trans (b1.mono hbel.size))
      have HRb := hide (HRa.out.below b1)
      go_wp2_with fail
      refine (implRuleAt_any ⟨dn, some ⟨b, off, none⟩, n, cR, R⟩ y.nm _ ⟨HRb.out, HZ.out⟩ hn).mono ?_
      rintro e w2 ⟨rfl, hb2⟩
      have hbel2 : Below w1.heap.size w1 w2 := HB2.out.trans (hb2.mono HB2.out.size)
      clear hb2 b1 c0 c1 c2 c3 c4 a0 a1 HX1 HX HB2 HRb HRa hbel
      generalize ixOf R y.nm = v at HNk HNo ⊢
      by_cases hv : v = (k : Int)
      · have HV := hide (HNk.out hv)
        have q1 : (v != (k : Int)) = false := by simpa using hv
        clear HNo HNk hv
        go_wp2
        go_roundw
        case rel => exact ⟨k + 1, by omega, by go_num, HV.out, hbel2⟩
        case measure => simp [intOf]; omega
      · have HV := hide (HNo.out hv)
        have q1 : (v != (k : Int)) = true := by simpa using hv
        clear HNo HNk hv
        go_wp2
        go_ret
        exact ⟨ret_bool (by rw [HV.out]), b0.trans (hbel2.mono b0.size)⟩
    · have HV : Hid (firstB R = true) := by
        unfold Hid firstB
        rw [List.all_eq_true]; intro j hj
        rw [List.mem_range, HZ.out] at hj
        exact decide_eq_true (HA.out j (by omega))
      go_wp2
      go_ret
      exact ⟨ret_bool (by rw [HV.out]), HB1.out⟩

set_option maxRecDepth 100000 in
set_option maxHeartbeats 3200000 in
theorem implDefOk_any (x : DE) (w : World) (hr : RdDef w x) (hs : x.small) (hc : ∀ r ∈ x.R, r.nP ≤ r.cP) :
    Calls Tryz.prog 13 #[.agg #[.string x.nm, .slice x.aR x.nR x.cR]] w fun e w' => e = .returned (.bool (defB x)) ∧ Below w.heap.size w w' := by
  obtain ⟨dn, aR, n, cR, R⟩ := x
  obtain ⟨s1, s2⟩ := hs
  have hz : R.length = n := hr.nr
  have hrr : RdRuleS w aR R := hr.r
  unfold DE.sz at s1
  simp only at s1 s2 hc ⊢
  have hn : n ≤ 1048580 := by omega
  have hkd : dn.size ≤ maxLen := by unfold maxLen; omega
  have HD : Hid (defB ⟨dn, aR, n, cR, R⟩ = (nameB dn && (inB n 1 12 && R.all ruleB) && firstB R)) := by unfold Hid defB; simp only [Bool.and_assoc]
  have HS := hide s2
  have HC := hide hc
  clear s1 s2 hc hr
  have b0 := below_al w (.cells #[.string dn, .slice aR n cR] 29)
  have HA := hide (boxk_new w #[.string dn, .slice aR n cR] 29)
  have hr0 := hrr.below b0
  go_enter Tryz.func13, Tryz.ntmps13
  go_wp2_with fail
  refine (implNameOk_any _ _ hkd).mono ?_
  rintro e u ⟨rfl, rfl⟩
  generalize w.alloc (.cells #[.string dn, .slice aR n cR] 29) = w1 at b0 HA hr0 ⊢
  have a0 := boxk_cell HA.out 0 _ rfl
  have a1 := boxk_cell HA.out 1 _ rfl
  cases h1 : nameB dn
  · have HV : Hid (defB ⟨dn, aR, n, cR, R⟩ = false) := by unfold Hid; rw [HD.out, h1]; rfl
    go_wp2
    go_ret
    exact ⟨ret_bool (by rw [HV.out]), b0⟩
  · rw [h1, Bool.true_and] at HD
    clear h1
    go_wp2_with fail
    refine (listR_any aR n cR R _ hz hr0 HS.out HC.out hn).mono ?_
    rintro e w2 ⟨rfl, hb2⟩
    have B2 := b0.trans (hb2.mono b0.size)
    have HA2 := hide (box_step HA.out hb2)
    have hr2 := hr0.below hb2
    clear hb2 b0 HA hr0 a0 a1
    have a0 := boxk_cell HA2.out 0 _ rfl
    have a1 := boxk_cell HA2.out 1 _ rfl
    cases h2 : (inB n 1 12 && R.all ruleB)
    · have HV : Hid (defB ⟨dn, aR, n, cR, R⟩ = false) := by unfold Hid; rw [HD.out, h2]; rfl
      clear h2
      go_wp2
      go_ret
      exact ⟨ret_bool (by rw [HV.out]), B2⟩
    · rw [h2, Bool.true_and] at HD
      clear h2
      go_wp2_with fail
      refine (eachFirst_any dn aR n cR R _ hz hr2 hn).mono ?_
      rintro e w3 ⟨rfl, hb3⟩
      have B3 := B2.trans (hb3.mono B2.size)
      clear hb3 B2 HA2 hr2 a0 a1
      rw [← HD.out]
      go_wp2
      go_ret
      exact ⟨rfl, B3⟩
end Go.Proofs.YtcfhpcbkdpgboaaGreatDoor
/-
  Numbers as texts, plainly: what is written comes back, and nothing else is read.
-/
namespace Go.Proofs.YtcfhpcbkdpgboaaGreatDoor
open Go.Lib
set_option linter.unusedVariables false

theorem decFrom_snoc (c : UInt8) : ∀ (l : List UInt8) (acc : Nat), decFrom acc (l ++ [c]) = match decFrom acc l with
    | some m => (match digitVal c with | some d => some (m * 10 + d) | none => none)
    | none => none
  | [], acc => by
    simp only [List.nil_append, decFrom]
    cases digitVal c <;> rfl
  | b :: r, acc => by
    simp only [List.cons_append, decFrom]
    cases digitVal b with
    | none => rfl
    | some d => exact decFrom_snoc c r _

theorem digitVal_dec (d : Nat) (h : d < 10) : digitVal (UInt8.ofNat (48 + d)) = some d := by
  have e : (UInt8.ofNat (48 + d)).toNat = 48 + d := by simp; omega
  unfold digitVal
  rw [e, if_pos (by omega)]
  simp

theorem decFrom_dec (u : Nat) : decFrom 0 (decDigits u) = some u := by
  induction u using Nat.strongRecOn with
  | _ u ih =>
    by_cases h : u < 10
    · rw [decDigits_one h]
      simp only [decFrom, digitVal_dec u h]; simp
    · rw [decDigits, dif_neg h, decFrom_snoc, ih (u / 10) (by omega), digitVal_dec _ (by omega)]
      simp; omega

theorem decDigits_ne (u : Nat) : decDigits u ≠ [] := by
  intro h
  have := decDigits_length u
  rw [h] at this
  have := nDigits_pos u
  simp at *; omega

theorem dec_head (u : Nat) : ∃ d r, decDigits u = UInt8.ofNat (48 + d) :: r ∧ d < 10 ∧ (0 < u → 0 < d) ∧ (u < 10 → r = []) := by
  induction u using Nat.strongRecOn with
  | _ u ih =>
    by_cases h : u < 10
    · exact ⟨u, [], decDigits_one h, h, fun h => h, fun _ => rfl⟩
    · obtain ⟨d, r, e, hd, hp, _⟩ := ih (u / 10) (by omega)
      refine ⟨d, r ++ [UInt8.ofNat (48 + u % 10)], ?_, hd, fun _ => hp (by omega), fun h2 => absurd h2 h⟩
      rw [decDigits, dif_neg h, e]; rfl

theorem ofNat_inj48 {d : Nat} (h : d < 10) (k : Nat) (hk : k < 256) : UInt8.ofNat (48 + d) = UInt8.ofNat k ↔ 48 + d = k := by
  constructor
  · intro e
    have := congrArg UInt8.toNat e
    simp at this; omega
  · intro e; rw [e]

theorem nDigits_10 (u : Nat) (h : u ≤ 1000000000) : nDigits u ≤ 10 := by
  rcases Nat.lt_or_ge (nDigits u) 11 with h1 | h1
  · omega
  · exfalso
    -- ten digits at most
    have : ∀ u, u < 10 ^ 10 → nDigits u ≤ 10 := by
      intro u hu
      have step : ∀ (k u : Nat), u < 10 ^ (k + 1) → nDigits u ≤ k + 1 := by
        intro k
        induction k with
        | zero => intro u hu; rw [nDigits_small (by simpa using hu)]; omega
        | succ k ih =>
          intro u hu
          by_cases hs : u < 10
          · rw [nDigits_small hs]; omega
          · rw [nDigits_big hs]
            have := ih (u / 10) (by rw [Nat.pow_succ] at hu; exact Nat.div_lt_of_lt_mul (by omega))
            omega
      exact step 9 u hu
    have := this u (by omega)
    omega

/-- the number of a text of at most ten digits, with no needless nought; -1: it is none -/
def wholeL (l : List UInt8) : Int :=
  if l.length < 1 ∨ 10 < l.length ∨ (1 < l.length ∧ l.head? = some 48) then -1
  else match decFrom 0 l with
    | some n => (n : Int)
    | none => -1

theorem whole_dec (u : Nat) (h : u ≤ 1000000000) : wholeL (decDigits u) = (u : Int) := by
  have hl := decDigits_length u
  have h1 := nDigits_pos u
  have h2 := nDigits_10 u h
  unfold wholeL
  rw [if_neg, decFrom_dec]
  rintro (h3 | h3 | ⟨h3, h4⟩)
  · omega
  · omega
  · obtain ⟨d, r, e, hd, hp, hr⟩ := dec_head u
    rw [e] at h4 h3
    simp only [List.head?_cons, Option.some.injEq] at h4
    have := (ofNat_inj48 hd 48 (by omega)).1 h4
    by_cases h0 : 0 < u
    · have := hp h0; omega
    · have := hr (by omega); rw [this] at h3; simp at h3

theorem digitVal_some {c : UInt8} {d : Nat} (h : digitVal c = some d) : c = UInt8.ofNat (48 + d) ∧ d < 10 := by
  obtain ⟨h1, h2, h3⟩ := digitVal_eq h
  refine ⟨?_, by omega⟩
  apply UInt8.toNat_inj.1
  rw [h3]
  simp; omega

/-- digits without a needless nought are their number's -/
theorem dec_of : ∀ (n : Nat) (l : List UInt8) (u : Nat), l.length = n + 1 → (1 < l.length → l.head? ≠ some 48) → decFrom 0 l = some u → l = decDigits u ∧ (l.head? ≠ some 48 → 0 < u)
  | 0, l, u, hl, hh, hd => by
    match l, hl with
    | [c], _ =>
      simp only [decFrom] at hd
      cases hc : digitVal c with
      | none => rw [hc] at hd; cases hd
      | some d =>
        rw [hc] at hd
        simp at hd
        obtain ⟨e, h10⟩ := digitVal_some hc
        subst hd
        refine ⟨by rw [decDigits_one h10, e], fun h => ?_⟩
        rcases Nat.eq_zero_or_pos d with h0 | h0
        · exfalso; apply h; rw [e, h0]; rfl
        · exact h0
  | n + 1, l, u, hl, hh, hd => by
    have hne : l ≠ [] := by intro e; rw [e] at hl; simp at hl
    obtain ⟨l', c, rfl⟩ : ∃ l' c, l = l' ++ [c] := ⟨l.dropLast, l.getLast hne, (List.dropLast_concat_getLast hne).symm⟩
    have hl' : l'.length = n + 1 := by simp at hl; exact hl
    have hhd : (l' ++ [c]).head? = l'.head? := by
      cases l' with
      | nil => simp at hl'
      | cons a r => rfl
    have hh' : l'.head? ≠ some 48 := by rw [← hhd]; exact hh (by simp; omega)
    rw [decFrom_snoc] at hd
    cases h1 : decFrom 0 l' with
    | none => rw [h1] at hd; cases hd
    | some m =>
      rw [h1] at hd
      simp only at hd
      cases hc : digitVal c with
      | none => rw [hc] at hd; cases hd
      | some d =>
        rw [hc] at hd
        simp at hd
        obtain ⟨e, h10⟩ := digitVal_some hc
        obtain ⟨e2, hp⟩ := dec_of n l' m hl' (fun _ => hh') h1
        have hm := hp hh'
        subst hd
        refine ⟨?_, fun _ => by omega⟩
        rw [decDigits, dif_neg (by omega), show (m * 10 + d) / 10 = m by omega, show (m * 10 + d) % 10 = d by omega, ← e2, e]

theorem whole_of {l : List UInt8} {u : Int} (h : wholeL l = u) (h0 : 0 ≤ u) : l = decDigits u.toNat := by
  unfold wholeL at h
  split at h
  · omega
  · rename_i hc
    split at h
    · rename_i n hn
      subst h
      have := (dec_of (l.length - 1) l n (by omega) (fun h1 h2 => hc (.inr (.inr ⟨h1, h2⟩))) hn).1
      simpa using this
    · omega

def numOk (n : Int) : Bool := decide (-1000000000 ≤ n) && decide (n ≤ 1000000000)
theorem numOk_iff {n : Int} : numOk n = true ↔ -1000000000 ≤ n ∧ n ≤ 1000000000 := by simp [numOk]

/-- a text's number, as the model reads it -/
def numV (l : List UInt8) : Option Int :=
  if 1 < l.length ∧ l.head? = some 45 then
    if 0 ≤ - wholeL l.tail then none else if numOk (- wholeL l.tail) then some (- wholeL l.tail) else none
  else if wholeL l < 0 then none else if numOk (wholeL l) then some (wholeL l) else none

theorem itoa_neg {n : Int} (h : n < 0) : itoa n = 45 :: decDigits n.natAbs := by unfold itoa; rw [if_pos h]
theorem itoa_pos {n : Int} (h : ¬ n < 0) : itoa n = decDigits n.toNat := by unfold itoa; rw [if_neg h]

theorem numV_itoa {n : Int} (h : numOk n = true) : numV (itoa n) = some n := by
  rw [numOk_iff] at h
  by_cases hn : n < 0
  · rw [itoa_neg hn]
    have hp := List.length_pos_iff.2 (decDigits_ne n.natAbs)
    have hw := whole_dec n.natAbs (by omega)
    unfold numV
    rw [if_pos (by simp; omega)]
    have e : wholeL (45 :: decDigits n.natAbs).tail = (n.natAbs : Int) := hw
    rw [if_neg (by rw [e]; omega), e, if_pos (by rw [numOk_iff]; omega)]
    congr 1; omega
  · rw [itoa_pos hn]
    have hw := whole_dec n.toNat (by omega)
    unfold numV
    rw [if_neg, hw, if_neg (by omega), if_pos (by rw [numOk_iff]; omega)]
    · congr 1; omega
    · rintro ⟨_, h2⟩
      obtain ⟨d, r, e, hd, _, _⟩ := dec_head n.toNat
      rw [e] at h2
      simp only [List.head?_cons, Option.some.injEq] at h2
      have := (ofNat_inj48 hd 45 (by omega)).1 h2
      omega

theorem numV_some {l : List UInt8} {n : Int} (h : numV l = some n) : numOk n = true ∧ l = itoa n := by
  unfold numV at h
  split at h
  · rename_i hc
    split at h
    · cases h
    · rename_i h0
      split at h
      · rename_i hk
        simp only [Option.some.injEq] at h
        subst h
        refine ⟨hk, ?_⟩
        rw [itoa_neg (by omega)]
        have e := whole_of (l := l.tail) rfl (by omega)
        match l, hc with
        | b :: r, ⟨_, h2⟩ =>
          simp only [List.head?_cons, Option.some.injEq] at h2
          simp only [List.tail_cons] at e h0 ⊢
          rw [h2]
          congr 1
          rw [show (-wholeL r).natAbs = (wholeL r).toNat by omega]
          exact e
      · cases h
  · split at h
    · cases h
    · split at h
      · rename_i hk
        simp only [Option.some.injEq] at h
        subst h
        refine ⟨hk, ?_⟩
        rw [itoa_pos (by omega)]
        exact whole_of rfl (by omega)
      · cases h

theorem atoi_itoa {n : Int} (h : numOk n = true) : atoiAll (itoa n) = .ok n := by
  rw [numOk_iff] at h
  have hd := decFrom_dec n.natAbs
  have hl := decDigits_length n.natAbs
  have hl2 := nDigits_10 n.natAbs (by omega)
  have hne : (decDigits n.natAbs).isEmpty = false := by
    have := decDigits_ne n.natAbs
    cases hx : decDigits n.natAbs with
    | nil => exact absurd hx this
    | cons a r => rfl
  by_cases hn : n < 0
  · rw [itoa_neg hn, atoiAll_short _ (by simp; omega)]
    have : atoi (45 :: decDigits n.natAbs) = some n := by
      show (decNat (decDigits n.natAbs)).map (fun (m : Nat) => -(m : Int)) = _
      unfold decNat
      rw [hne]
      simp only [Bool.false_eq_true, if_false]
      rw [hd]
      simp; omega
    rw [this]; rfl
  · rw [itoa_pos hn, show n.toNat = n.natAbs by omega, atoiAll_short _ (by omega)]
    have : atoi (decDigits n.natAbs) = some n := by
      obtain ⟨d, r, e, hdd, _, _⟩ := dec_head n.natAbs
      rw [e] at hd ⊢
      have h1 : (UInt8.ofNat (48 + d) == 45) = false := by
        rw [beq_eq_false_iff_ne]; intro e2
        have := (ofNat_inj48 hdd 45 (by omega)).1 e2
        omega
      have h2 : (UInt8.ofNat (48 + d) == 43) = false := by
        rw [beq_eq_false_iff_ne]; intro e2
        have := (ofNat_inj48 hdd 43 (by omega)).1 e2
        omega
      unfold atoi
      simp only [h1, h2, Bool.false_eq_true, if_false]
      unfold decNat
      rw [show (UInt8.ofNat (48 + d) :: r).isEmpty = false from rfl]
      simp only [Bool.false_eq_true, if_false]
      rw [hd]
      simp; omega
    rw [this]; rfl

/-- a text whose first byte is neither a digit nor a sign has no number -/
theorem numV_head {c : UInt8} {r : List UInt8} (h1 : c.toNat = 39) : numV (c :: r) = none := by
  cases h : numV (c :: r) with
  | none => rfl
  | some n =>
    obtain ⟨hk, e⟩ := numV_some h
    exfalso
    by_cases hn : n < 0
    · rw [itoa_neg hn] at e
      simp only [List.cons.injEq] at e
      rw [e.1] at h1; exact absurd h1 (by decide)
    · rw [itoa_pos hn] at e
      obtain ⟨d, r', e', hd, _, _⟩ := dec_head n.toNat
      rw [e'] at e
      simp only [List.cons.injEq] at e
      rw [e.1] at h1
      simp at h1; omega
end Go.Proofs.YtcfhpcbkdpgboaaGreatDoor
/-
  What the model's text of a number is: itoa of the number; nothing that was there has turned.
-/
namespace Go.Proofs.YtcfhpcbkdpgboaaGreatDoor
open Go.RowKit
set_option linter.unusedVariables false

theorem conv_one (q : Nat) (c : UInt8) (d : Int) (hd : d = (c.toNat : Int)) (W : World) (h : W.cell? ⟨q, 0, none⟩ = some (.int .u8 d)) :
    (convert 87 9 (.slice (some ⟨q, 0, none⟩) 1 1)).run Tryz.prog W = .ok (.string ⟨#[c]⟩) W := by
  subst hd
  have := run_convert_bytes_back (P := Tryz.prog) W 87 9 5 ⟨q, 0, none⟩ 1 [c] Tryz.underlying87 Tryz.underlying5 Tryz.underlying9 (fun j hj => by
    obtain rfl : j = 0 := by simpa using hj
    rw [Addr.add_lit, Nat.add_zero, h]
    simp)
  simpa using this
theorem digit_byte {d : Nat} (h : d < 10) : ∃ c : UInt8, 48 + (d : Int) = (c.toNat : Int) ∧ UInt8.ofNat (48 + d) = c := ⟨_, by simp; omega, rfl⟩
theorem dec_snoc {u : Nat} (h : ¬ u < 10) : (⟨(Lib.decDigits (u / 10)).toArray⟩ : ByteArray) ++ ⟨#[UInt8.ofNat (48 + u % 10)]⟩ = ⟨(Lib.decDigits u).toArray⟩ := by
  rw [show Lib.decDigits u = Lib.decDigits (u / 10) ++ [UInt8.ofNat (48 + u % 10)] by rw [Lib.decDigits, dif_neg h]]
  apply ByteArray.ext
  rw [ByteArray.data_append]
  simp

theorem dec_size {u : Nat} (h : u ≤ 1000000000) : (⟨(Lib.decDigits u).toArray⟩ : ByteArray).size ≤ 10 := by
  have h1 := Lib.decDigits_length u
  have h2 := nDigits_10 u h
  show (Lib.decDigits u).toArray.size ≤ 10
  simp; omega

theorem below_d {w w' : World} (hb : Below w.drew.heap.size w.drew w') : Below w.heap.size w w' := ((Below.refl w.heap.size w).drew).trans hb
theorem below_da {w w' : World} (hb : Below w.drew.heap.size w.drew w') (o : Obj) : Below w.heap.size w (w'.alloc o) := (below_d hb).alloc (below_d hb).size _

set_option maxRecDepth 100000 in
set_option maxHeartbeats 1600000 in
theorem l2Num_pos (u : Nat) : ∀ (x : Int) (w : World), x = (u : Int) → u ≤ 1000000000 →
    Calls Tryz.prog 22 #[.int .i64 x] w fun e w' => ∃ s, e = .returned (.string s) ∧ s.size ≤ 10 ∧ Hid (s = ⟨(Lib.decDigits u).toArray⟩) ∧ Below w.heap.size w w' := by
  induction u using Nat.strongRecOn with
  | _ u ih =>
    intro x w hx hu
    subst hx
    have HZ := hide (dec_size hu)
    by_cases h : u < 10
    · obtain ⟨c, hc, hb⟩ := digit_byte h
      have HD : Hid (Lib.decDigits u = [c]) := by unfold Hid; rw [Lib.decDigits_one h, hb]
      have hconv := conv_one w.heap.size c _ hc (w.alloc (.cells #[.int .u8 (48 + (u : Int))] 5)) (by simp)
      have hn0 : ¬ ((u : Int) < 0) := by omega
      have hn1 : (u : Int) < 10 := by omega
      clear ih hc hb
      go_enter Tryz.func22, Tryz.ntmps22
      go_wp2
      go_ret
      exact ⟨⟨#[c]⟩, rfl, show (1 : Nat) ≤ 10 by omega, by unfold Hid; rw [HD.out], by go_grown⟩
    · obtain ⟨c, hc, hb⟩ := digit_byte (show u % 10 < 10 by omega)
      have HD := hide (dec_snoc h)
      rw [hb] at HD
      have HI := hide (fun (x : Int) (w : World) (hx : x = ((u / 10 : Nat) : Int)) => ih (u / 10) (by omega) x w hx (by omega))
      clear ih
      have hn0 : ¬ ((u : Int) < 0) := by omega
      have hn1 : ¬ ((u : Int) < 10) := by omega
      have hv : IntKind.u8.wrap (IntKind.i64.wrap (48 + (u : Int).tmod 10)) = (c.toNat : Int) := by rw [Int.tmod_eq_emod_of_nonneg (by omega), IntKind.wrap_i64, IntKind.wrap_u8]; omega
      have hconv := fun q W => conv_one q c _ hv W
      have hc1 : (ByteArray.mk #[c]).size = 1 := rfl
      clear hv hc hb
      go_enter Tryz.func22, Tryz.ntmps22
      go_wp2_with fail
      go_region_with (go_at_call 22; refine (HI.out _ _ ?_).mono ?_; (first | omega | (rw [IntKind.wrap_i64]; omega)); rintro e w' ⟨s, rfl, hs, HS, hb⟩; obtain ⟨hc, hf⟩ := bcell hb)
      all_goals go_wp2
      all_goals go_ret
      all_goals refine ⟨s ++ ⟨#[c]⟩, rfl, by rw [HS.out, HD.out]; exact HZ.out, by unfold Hid; rw [HS.out]; exact HD.out, ?_⟩
      all_goals first | (with_reducible exact below_box hb) | (with_reducible exact below_da hb _) | (with_reducible exact below_d hb)

set_option maxHeartbeats 1600000 in
theorem l2Num_any (n : Int) (w : World) (h : -1000000000 ≤ n) (h' : n ≤ 1000000000) :
    Calls Tryz.prog 22 #[.int .i64 n] w fun e w' => ∃ s, e = .returned (.string s) ∧ s.size ≤ 11 ∧ Hid (s = ⟨(Lib.itoa n).toArray⟩) ∧ Below w.heap.size w w' := by
  by_cases hn : n < 0
  · have HI := hide (itoa_neg hn)
    go_enter Tryz.func22, Tryz.ntmps22
    go_wp2_with fail
    refine (l2Num_pos n.natAbs _ _ (by omega) (by omega)).mono ?_
    rintro e w1 ⟨s, rfl, hs, HS, hb⟩
    have hc1 : (ByteArray.mk #[45]).size = 1 := rfl
    have HT : Hid (⟨#[45]⟩ ++ s = ⟨(Lib.itoa n).toArray⟩) := by
      unfold Hid
      rw [HS.out, HI.out]
      apply ByteArray.ext
      rw [ByteArray.data_append]
      simp
    have HZ : Hid ((⟨#[45]⟩ ++ s : ByteArray).size ≤ 11) := by
      unfold Hid
      rw [ByteArray.size_append, hc1]; omega
    go_wp2
    go_ret
    exact ⟨⟨#[45]⟩ ++ s, rfl, HZ.out, HT, hb⟩
  · have HI := hide (itoa_pos hn)
    exact (l2Num_pos n.toNat n w (by omega) (by omega)).mono fun e w' ⟨s, h1, h2, h3, h4⟩ => ⟨s, h1, by omega, by unfold Hid; rw [h3.out, HI.out], h4⟩
end Go.Proofs.YtcfhpcbkdpgboaaGreatDoor
/-
  The library's table of powers of ten.
-/
namespace Go.Proofs.YtcfhpcbkdpgboaaGreatDoor
open Go.RowKit
set_option linter.unusedVariables false

/-- the library's table of powers of ten reads as its initialiser lays it -/
def Tab (w : World) : Prop := Lib.TabIs Tryz.prog w "internal/strconv.uint64pow10" .u64 Lib.pow10Tab
theorem gTab : ∃ g, Tryz.prog.globalNamed "internal/strconv.uint64pow10" = some g := Option.isSome_iff_exists.1 (by kernel_rfl)
theorem Tab.later {w w' : World} {B : Nat} (h : Tab w) (hb : Below B w w') (hB : w.heap.size ≤ B) : Tab w' := by
  obtain ⟨g, hg⟩ := gTab
  exact Joins.tab_stays hg h hb hB
end Go.Proofs.YtcfhpcbkdpgboaaGreatDoor
/-
  What the texts of values are, the tested one and the model's alike: textV of the value; nothing that was there has turned. (The tested one reads the library's table of powers of ten.)
-/
namespace Go.Proofs.YtcfhpcbkdpgboaaGreatDoor
open Go.RowKit
set_option linter.unusedVariables false

def textV (K N : Int) (S : ByteArray) : ByteArray :=
  if valB K N S then (if K = 1 then ⟨(Lib.itoa N).toArray⟩ else ⟨#[39]⟩ ++ S ++ ⟨#[39]⟩) else ⟨#[]⟩
theorem textV_num {N : Int} {S : ByteArray} (h : valB 1 N S = true) : textV 1 N S = ⟨(Lib.itoa N).toArray⟩ := by simp [textV, h]
theorem textV_text {K N : Int} {S : ByteArray} (h : valB K N S = true) (hk : K ≠ 1) : textV K N S = ⟨#[39]⟩ ++ S ++ ⟨#[39]⟩ := by simp [textV, h, hk]
theorem textV_no {K N : Int} {S : ByteArray} (h : valB K N S = false) : textV K N S = ⟨#[]⟩ := by simp [textV, h]
theorem ta_num_num (n : Int) (w : World) : (Instr.typeAssert (.iface 209 (.int .i64 n)) 186 209 true).run Tryz.prog w = .ok (.tuple #[.int .i64 n, .bool true]) w := by kernel_rfl
theorem ta_nil_num (w : World) : (Instr.typeAssert .nilIface 186 209 true).run Tryz.prog w = .ok (.tuple #[.int .i64 0, .bool false]) w := by kernel_rfl
theorem ta_text_num (s : ByteArray) (w : World) : (Instr.typeAssert (.iface 210 (.string s)) 186 209 true).run Tryz.prog w = .ok (.tuple #[.int .i64 0, .bool false]) w := by kernel_rfl
theorem ta_nil_text (w : World) : (Instr.typeAssert .nilIface 186 210 true).run Tryz.prog w = .ok (.tuple #[.string ⟨#[]⟩, .bool false]) w := by kernel_rfl
theorem ta_text_text (s : ByteArray) (w : World) : (Instr.typeAssert (.iface 210 (.string s)) 186 210 true).run Tryz.prog w = .ok (.tuple #[.string s, .bool true]) w := by kernel_rfl

theorem valB_texts {K N : Int} {S : ByteArray} (h : valB K N S = true) (hk : K ≠ 1) : S.size ≤ 20 := by
  by_cases h2 : K = 2
  · subst h2
    rw [valB_text] at h
    exact textB_le (by simp at h; exact h.1)
  · rw [valB_none N S hk h2] at h; cases h

set_option maxHeartbeats 1600000 in
theorem textOfSpoken_any (K N : Int) (S : ByteArray) (w : World) (ht : Tab w) :
    Calls Tryz.prog 145 #[spokV K N S] w fun e w' => e = .returned (.string (textV K N S)) ∧ Below w.heap.size w w' := by
  have t1 := ta_num_num
  have t2 := ta_nil_num
  have t3 := ta_text_num
  have t4 := ta_nil_text
  have t5 := ta_text_text
  cases hv : valB K N S
  · rw [spokV_no hv, textV_no hv]
    go_enter Tryz.func145, Tryz.ntmps145
    go_wp2
    go_ret
    exact ⟨rfl, Below.refl _ _⟩
  · by_cases hK : K = 1
    · subst hK
      have hr := hide (show -1000000000 ≤ N ∧ N ≤ 1000000000 by
        by_cases hr : -1000000000 ≤ N ∧ N ≤ 1000000000
        · exact hr
        · rw [valB_out S hr] at hv; cases hv)
      rw [spokV_one hv, textV_num hv]
      have HTab := hide ht
      clear ht hv
      go_enter Tryz.func145, Tryz.ntmps145
      go_wp2_with fail
      refine (Tryz.strconv_Itoa N (by have := hr.out; omega) (by have := hr.out; omega) _ HTab.out).mono ?_
      rintro e w1 ⟨rfl, k, os, rfl⟩
      have hb := Lib.below_grow w.heap.size w (Nat.le_refl _) k os
      generalize Sort.grow (w.drewN k) os = w1 at hb ⊢
      generalize hT : (⟨(Lib.itoa N).toArray⟩ : ByteArray) = s
      have HT := hide hT
      clear hT
      go_wp2
      go_ret
      exact ⟨by rw [HT.out]; rfl, hb⟩
    · have e : spokV K N S = .iface 210 (.string S) := by unfold spokV; rw [hv, if_pos rfl, if_neg hK]
      have hS := valB_texts hv hK
      have hc1 : (ByteArray.mk #[39]).size = 1 := rfl
      rw [e, textV_text hv hK]
      clear e hK hv
      go_enter Tryz.func145, Tryz.ntmps145
      go_wp2
      go_ret
      exact ⟨rfl, Below.refl _ _⟩

set_option maxHeartbeats 1600000 in
theorem implValText_any (K N : Int) (S : ByteArray) (w : World) (hs : S.size ≤ maxLen) (ht : Tab w) :
    Calls Tryz.prog 110 #[.agg #[.int .i64 K, .int .i64 N, .string S]] w fun e w' => e = .returned (.string (textV K N S)) ∧ Below w.heap.size w w' := by
  have HTab := hide ht
  clear ht
  go_enter Tryz.func110, Tryz.ntmps110
  go_wp2_with fail
  refine (spokenOf_any K N S _ hs).mono ?_
  rintro e w1 ⟨rfl, hb⟩
  have hb1 : Below w.heap.size w w1 := ((Below.refl w.heap.size w).alloc (Nat.le_refl _) _).trans (hb.mono (by simp))
  clear hb
  go_wp2_with fail
  refine (textOfSpoken_any K N S w1 (HTab.out.later hb1 (Nat.le_refl _))).mono ?_
  rintro e w2 ⟨rfl, hb2⟩
  have hb3 : Below w.heap.size w w2 := hb1.trans (hb2.mono hb1.size)
  clear hb2
  generalize hT : textV K N S = s
  have HT := hide hT
  clear hT
  go_wp2
  go_ret
  exact ⟨by rw [HT.out]; rfl, hb3⟩

set_option maxHeartbeats 1600000 in
theorem l2Text_any (K N : Int) (S : ByteArray) (w : World) (hv : valB K N S = true) :
    Calls Tryz.prog 89 #[.agg #[.int .i64 K, .int .i64 N, .string S]] w fun e w' => e = .returned (.string (textV K N S)) ∧ Below w.heap.size w w' := by
  by_cases hK : K = 1
  · subst hK
    have hr : -1000000000 ≤ N ∧ N ≤ 1000000000 := by
      by_cases hr : -1000000000 ≤ N ∧ N ≤ 1000000000
      · exact hr
      · rw [valB_out S hr] at hv; cases hv
    obtain ⟨hr1, hr2⟩ := hr
    have HV := hide (textV_num hv)
    clear hv
    go_enter Tryz.func89, Tryz.ntmps89
    go_wp2_with fail
    refine (l2Num_any N _ hr1 hr2).mono ?_
    rintro e w1 ⟨s, rfl, hs, HS, hb⟩
    have hb1 : Below w.heap.size w w1 := ((Below.refl w.heap.size w).alloc (Nat.le_refl _) _).trans (hb.mono (by simp))
    clear hb
    go_wp2
    go_ret
    exact ⟨by rw [HV.out, ← HS.out]; rfl, hb1⟩
  · have hS := valB_texts hv hK
    have HV := hide (textV_text hv hK)
    have hc1 : (ByteArray.mk #[39]).size = 1 := rfl
    have hk : (K == 1) = false := by simpa using hK
    clear hv hK
    go_enter Tryz.func89, Tryz.ntmps89
    go_wp2
    go_ret
    exact ⟨by rw [HV.out]; rfl, by go_grown⟩

end Go.Proofs.YtcfhpcbkdpgboaaGreatDoor
/-
  When a value is right, of its three parts at once.
-/
namespace Go.Proofs.YtcfhpcbkdpgboaaGreatDoor

def V3.ok (v : V3) : Bool := valB v.K v.N v.S
end Go.Proofs.YtcfhpcbkdpgboaaGreatDoor
/-
  The text of a value that is right is short.
-/
namespace Go.Proofs.YtcfhpcbkdpgboaaGreatDoor
open Go.RowKit
set_option linter.unusedVariables false

def V3.tx (v : V3) : ByteArray := textV v.K v.N v.S
theorem tx_size {v : V3} (h : v.ok = true) : v.tx.size ≤ 22 := by
  obtain ⟨K, N, S⟩ := v
  have h' : valB K N S = true := h
  show (textV K N S).size ≤ 22
  by_cases hk : K = 1
  · subst hk
    have hN : -1000000000 ≤ N ∧ N ≤ 1000000000 := by
      by_cases hN : -1000000000 ≤ N ∧ N ≤ 1000000000
      · exact hN
      · rw [valB_out S hN] at h'; cases h'
    rw [textV_num h']
    show (Lib.itoa N).toArray.size ≤ 22
    simp only [List.size_toArray]
    by_cases hn : N < 0
    · rw [itoa_neg hn]; have := nDigits_10 N.natAbs (by omega); simp only [List.length_cons]; rw [Lib.decDigits_length]; omega
    · rw [itoa_pos hn]; have := nDigits_10 N.toNat (by omega); rw [Lib.decDigits_length]; omega
  · have hS := valB_texts h' hk
    rw [textV_text h' hk]
    have e1 : (⟨#[39]⟩ : ByteArray).size = 1 := rfl
    simp only [ByteArray.size_append, e1]; omega
end Go.Proofs.YtcfhpcbkdpgboaaGreatDoor
/-
  What the functions on a fact's rightness answer: factB, the tested one and the model alike.
-/
namespace Go.Proofs.YtcfhpcbkdpgboaaGreatDoor
open Go.RowKit
set_option linter.unusedVariables false

def factB (kd : ByteArray) (L : List V3) : Bool := nameB kd && decide (L.length ≤ 5) && L.all V3.ok
theorem all_no {L : List V3} {k : Nat} (hk : k < L.length) (h : valB (vAt L k).K (vAt L k).N (vAt L k).S = false) : L.all V3.ok = false := by
  rw [Bool.eq_false_iff]
  intro ha
  have := List.all_eq_true.1 ha L[k] (List.getElem_mem hk)
  rw [← vAt_in hk] at this
  unfold V3.ok at this
  rw [h] at this; cases this
theorem all_yes {L : List V3} (h : ∀ k, k < L.length → valB (vAt L k).K (vAt L k).N (vAt L k).S = true) : L.all V3.ok = true := by
  rw [List.all_eq_true]
  intro v hv
  obtain ⟨k, hk, rfl⟩ := List.getElem_of_mem hv
  rw [← vAt_in hk]; exact h k hk
theorem below_gn {w w' : World} (h : w.grownBy w' none) : Below w.heap.size w w' := (Below.refl _ _).grown h (Nat.le_refl _) (fun k hk => by cases hk)

end Go.Proofs.YtcfhpcbkdpgboaaGreatDoor
/-
  What the text of a fact is: its kind, and the texts of its values between brackets; the model's and the tested one alike.
-/
namespace Go.Proofs.YtcfhpcbkdpgboaaGreatDoor
open Go.RowKit
set_option linter.unusedVariables false

/-- the texts with commas between -/
def joinV (L : List V3) : List UInt8 := Lib.join (L.map fun v => v.tx.data.toList) [44]
theorem joinV_nil : joinV [] = [] := rfl
theorem joinV_snoc (L : List V3) (v : V3) : joinV (L ++ [v]) = if L = [] then v.tx.data.toList else joinV L ++ (44 :: v.tx.data.toList) := by
  unfold joinV Lib.join
  induction L with
  | nil => simp [List.intercalate]
  | cons a r ih =>
    rw [if_neg (by simp)]
    cases r with
    | nil => simp [List.intercalate]
    | cons b s =>
      rw [if_neg (by simp)] at ih
      simp only [List.map_append, List.map_cons, List.map_nil, List.cons_append] at ih ⊢
      have e : ∀ (p q : List UInt8) (t : List (List UInt8)), List.intercalate [44] (p :: q :: t) = p ++ (44 :: List.intercalate [44] (q :: t)) := fun p q t => by simp [List.intercalate, List.intersperse]
      rw [e, e, ih]
      simp
theorem joinV_take {L : List V3} (h : ∀ v ∈ L, v.ok = true) : ∀ k, k ≤ L.length → (joinV (L.take k)).length ≤ 23 * k
  | 0, _ => by simp [joinV_nil]
  | k + 1, hk => by
    have ih := joinV_take h k (by omega)
    have h2 := tx_size (h L[k] (List.getElem_mem (by omega)))
    have e : L[k].tx.data.toList.length = L[k].tx.size := by rw [Array.length_toList]; rfl
    rw [List.take_succ_eq_append_getElem (by omega), joinV_snoc]
    split
    · omega
    · simp only [List.length_append, List.length_cons]; omega
def factT (kd : ByteArray) (L : List V3) : ByteArray := if factB kd L then kd ++ (⟨#[40]⟩ ++ ⟨(joinV L).toArray⟩ ++ ⟨#[41]⟩) else ⟨#[]⟩

theorem ok_at {L : List V3} (h : ∀ v ∈ L, v.ok = true) {k : Nat} (hk : k < L.length) : (vAt L k).ok = true := by rw [vAt_in hk]; exact h _ (List.getElem_mem hk)

end Go.Proofs.YtcfhpcbkdpgboaaGreatDoor
/-
  What the text of an argument is; the model's.
-/
namespace Go.Proofs.YtcfhpcbkdpgboaaGreatDoor
open Go.RowKit
set_option linter.unusedVariables false

def argT (K : Int) (S : ByteArray) (V : V3) : ByteArray := if K = 1 then S else if K = 2 then textV V.K V.N V.S else ⟨#[95]⟩
def A5.tx (x : A5) : ByteArray := argT x.K x.S x.V
theorem var_size {s : ByteArray} (h : varB s = true) : s.size ≤ 12 := by
  unfold varB inB at h
  simp only [Bool.and_eq_true, decide_eq_true_eq] at h
  omega
theorem txA_size {x : A5} (h : x.ok = true) : x.tx.size ≤ 22 := by
  obtain ⟨K, S, V⟩ := x
  have h' : argB K S V = true := h
  show (argT K S V).size ≤ 22
  unfold argT
  unfold argB at h'
  by_cases h1 : K = 1
  · rw [if_pos h1] at h' ⊢
    have := var_size ((Bool.and_eq_true _ _).mp h').1
    omega
  · rw [if_neg h1] at h' ⊢
    by_cases h2 : K = 2
    · rw [if_pos h2] at h' ⊢
      exact tx_size (v := V) ((Bool.and_eq_true _ _).mp h').1
    · rw [if_neg h2]
      show 1 ≤ 22
      omega
set_option maxRecDepth 100000 in
set_option maxHeartbeats 1600000 in
theorem l6ArgText_any (K : Int) (S : ByteArray) (V : V3) (w : World) (hok : argB K S V = true) :
    Calls Tryz.prog 50 #[.agg #[.int .i64 K, .string S, .int .i64 V.K, .int .i64 V.N, .string V.S]] w fun e w' => e = .returned (.string (argT K S V)) ∧ Below w.heap.size w w' := by
  have b0 := below_al w (.cells #[.int .i64 K, .string S, .int .i64 V.K, .int .i64 V.N, .string V.S] 63)
  by_cases h1 : K = 1
  · subst h1
    go_enter Tryz.func50, Tryz.ntmps50
    go_wp2
    go_ret
    exact ⟨rfl, b0⟩
  · have k1 : (K == 1) = false := by simpa using h1
    by_cases h2 : K = 2
    · subst h2
      have hv : valB V.K V.N V.S = true := by rw [argB2] at hok; exact ((Bool.and_eq_true _ _).mp hok).1
      go_enter Tryz.func50, Tryz.ntmps50
      go_wp2_with fail
      refine (l2Text_any _ _ _ _ hv).mono ?_
      rintro e w1 ⟨rfl, hb⟩
      have B1 : Below w.heap.size w w1 := b0.trans (hb.mono b0.size)
      go_wp2
      go_ret
      exact ⟨rfl, B1⟩
    · have k2 : (K == 2) = false := by simpa using h2
      have HR : Hid (argT K S V = ⟨#[95]⟩) := by unfold Hid argT; rw [if_neg h1, if_neg h2]
      clear h1 h2 hok
      go_enter Tryz.func50, Tryz.ntmps50
      go_wp2
      go_ret
      exact ⟨by rw [HR.out]; rfl, b0⟩
end Go.Proofs.YtcfhpcbkdpgboaaGreatDoor
/-
  What the text of a pattern is: a sign where it is Not, its kind, and the texts of its arguments between brackets; the model's.
-/
namespace Go.Proofs.YtcfhpcbkdpgboaaGreatDoor
open Go.RowKit
set_option linter.unusedVariables false

/-- the texts with a comma and a blank between -/
def joinA (L : List A5) : List UInt8 := Lib.join (L.map fun v => v.tx.data.toList) [44, 32]
theorem joinA_nil : joinA [] = [] := rfl
theorem joinA_snoc (L : List A5) (v : A5) : joinA (L ++ [v]) = if L = [] then v.tx.data.toList else joinA L ++ (44 :: 32 :: v.tx.data.toList) := by
  unfold joinA Lib.join
  induction L with
  | nil => simp [List.intercalate]
  | cons a r ih =>
    rw [if_neg (by simp)]
    cases r with
    | nil => simp [List.intercalate]
    | cons b s =>
      rw [if_neg (by simp)] at ih
      simp only [List.map_append, List.map_cons, List.map_nil, List.cons_append] at ih ⊢
      have e : ∀ (p q : List UInt8) (t : List (List UInt8)), List.intercalate [44, 32] (p :: q :: t) = p ++ (44 :: 32 :: List.intercalate [44, 32] (q :: t)) := fun p q t => by simp [List.intercalate, List.intersperse]
      rw [e, e, ih]
      simp
theorem joinA_take {L : List A5} (h : ∀ v ∈ L, v.ok = true) : ∀ k, k ≤ L.length → (joinA (L.take k)).length ≤ 24 * k
  | 0, _ => by simp [joinA_nil]
  | k + 1, hk => by
    have ih := joinA_take h k (by omega)
    have h2 := txA_size (h L[k] (List.getElem_mem (by omega)))
    have e : L[k].tx.data.toList.length = L[k].tx.size := by rw [Array.length_toList]; rfl
    rw [List.take_succ_eq_append_getElem (by omega), joinA_snoc]
    split
    · omega
    · simp only [List.length_append, List.length_cons]; omega
theorem joinA_le {L : List A5} (h : ∀ v ∈ L, v.ok = true) : (joinA L).length ≤ 24 * L.length := by
  have := joinA_take h L.length (Nat.le_refl _)
  rwa [List.take_length] at this
def notT (nt : Bool) (t : ByteArray) : ByteArray := if nt then ⟨#[33]⟩ ++ t else t
def patT (kd : ByteArray) (L : List A5) (nt : Bool) : ByteArray := if patB kd L then notT nt (kd ++ ⟨#[40]⟩) ++ ⟨(joinA L).toArray⟩ ++ ⟨#[41]⟩ else ⟨#[]⟩
theorem patT_no {kd : ByteArray} {L : List A5} {nt : Bool} (h : patB kd L = false) : patT kd L nt = ⟨#[]⟩ := by unfold patT; rw [if_neg (by rw [h]; simp)]
theorem patT_yes {kd : ByteArray} {L : List A5} {nt : Bool} (h : patB kd L = true) : patT kd L nt = notT nt (kd ++ ⟨#[40]⟩) ++ ⟨(joinA L).toArray⟩ ++ ⟨#[41]⟩ := by unfold patT; rw [if_pos h]
theorem patB_open {kd : ByteArray} {L : List A5} (h : patB kd L = true) : nameB kd = true ∧ L.length ≤ 5 ∧ ∀ v ∈ L, v.ok = true := by
  unfold patB at h
  simp only [Bool.and_eq_true, decide_eq_true_eq, List.all_eq_true] at h
  exact ⟨h.1.1, h.1.2, h.2⟩
theorem nameP_size {s : ByteArray} (h : nameB s = true) : s.size ≤ 12 := by
  unfold nameB inB at h
  simp only [Bool.and_eq_true, decide_eq_true_eq] at h
  omega

set_option maxRecDepth 100000 in
set_option maxHeartbeats 3200000 in
theorem specPatText_any (kd : ByteArray) (a : Option Addr) (cap : Nat) (L : List A5) (nt : Bool) (w : World) (hkd : kd.size ≤ maxLen) (hr : RdArg w a L) (hs : ∀ x ∈ L, x.fits) (hm : L.length ≤ 1048580) :
    Calls Tryz.prog 23 #[.agg #[.string kd, .slice a L.length cap, .bool nt]] w fun e w' =>
      e = .returned (.string (patT kd L nt)) ∧ Below w.heap.size w w' := by
  have b0 := below_al w (.cells #[.string kd, .slice a L.length cap, .bool nt] 58)
  have hP := boxk_new w #[.string kd, .slice a L.length cap, .bool nt] 58
  go_enter Tryz.func23, Tryz.ntmps23
  go_wp2_with fail
  refine (specPatOk_any kd a cap L nt _ hkd (hr.below b0) hs hm).mono ?_
  rintro e w1 ⟨rfl, hb1⟩
  have HP := hide (box_below hP hb1 (by simp))
  have hB1 : Below w.heap.size w w1 := b0.trans (hb1.mono b0.size)
  have hz1 : w.heap.size < w1.heap.size := Nat.lt_of_lt_of_le (by simp) hb1.size
  clear hb1 b0 hP
  cases hv : patB kd L
  · have HV := hide (patT_no (nt := nt) hv)
    clear hv
    go_wp2
    go_ret
    exact ⟨by rw [HV.out]; rfl, hB1⟩
  · obtain ⟨hn, h5, hok⟩ := patB_open hv
    have HV := hide (patT_yes (nt := nt) hv)
    have HOk := hide hok
    have hkn := nameP_size hn
    clear hv hok hn hm
    obtain ⟨n, hN⟩ : ∃ n, n = L.length := ⟨_, rfl⟩
    obtain ⟨p0, p1, p2, -, -, -⟩ := box_cell HP.out
    rw [← hN] at h5 HP p1 ⊢
    have HN := hide hN
    clear hN
    have c40 : (ByteArray.mk #[40]).size = 1 := rfl
    have c41 : (ByteArray.mk #[41]).size = 1 := rfl
    have c33 : (ByteArray.mk #[33]).size = 1 := rfl
    have c44 : (ByteArray.mk #[44, 32]).size = 2 := rfl
    obtain ⟨pre, hpre⟩ : ∃ pre, pre = notT nt (kd ++ ⟨#[40]⟩) := ⟨_, rfl⟩
    have hps : pre.size ≤ 14 := by
      rw [hpre]; unfold notT
      cases nt
      · simp only [Bool.false_eq_true, if_false, ByteArray.size_append, c40]; omega
      · simp only [if_true, ByteArray.size_append, c40, c33]; omega
    rw [← hpre] at HV
    have HPre := hide hpre
    have hk1 : (kd ++ ⟨#[40]⟩ : ByteArray).size = kd.size + 1 := by rw [ByteArray.size_append, c40]
    have HLoop : Hid (∀ (Q : Exit → Act → World → Prop), True) := fun _ => trivial
    clear hpre HLoop
    cases nt
    all_goals
      rw [show notT _ (kd ++ (⟨#[40]⟩ : ByteArray)) = _ from rfl] at HPre
      go_wp2
      go_loopw [3, 4] (fun s i wr => ∃ (k : Nat) (t : ByteArray), k ≤ n ∧ i = .int .i64 k ∧ s = .string t ∧ t.size ≤ 14 + 24 * k ∧ t = pre ++ ⟨(joinA (L.take k)).toArray⟩ ∧ Below w1.heap.size w1 wr) (fun _ i _ => n - (intOf i).toNat)
      case atStart =>
        refine ⟨0, pre, Nat.zero_le _, rfl, ?_, by omega, by rw [List.take_zero, joinA_nil]; apply ByteArray.ext; apply Array.toList_inj.1; simp, Below.refl _ _⟩
        rw [HPre.out]
        rfl
      case round =>
        clear p0 p1 p2
        obtain ⟨k, t, hk, rfl, rfl, hts, ht, hbel⟩ := hrel
        have HT := hide ht
        clear ht
        have hB : Below w.heap.size w wr := hB1.trans (hbel.mono hB1.size)
        have p1 := boxk_cell (box_below HP.out hbel hz1) 1 _ rfl
        by_cases hlt : k < n
        · obtain ⟨b, off, hab, hbw, hc⟩ := RdArg.cells (hr.below hB) (by rw [← HN.out]; omega)
          obtain ⟨c0, c1, c2, c3, c4⟩ := hc k (by rw [← HN.out]; exact hlt)
          clear hc
          subst hab
          have hv : (eAt L k).ok = true := by rw [eAt_in (by rw [← HN.out]; exact hlt)]; exact HOk.out _ (List.getElem_mem _)
          have hxs := txA_size hv
          have HTake : Hid (L.take (k + 1) = L.take k ++ [eAt L k]) := by unfold Hid; rw [List.take_succ_eq_append_getElem (by rw [← HN.out]; exact hlt), eAt_in]
          have HVx := hide (fun W => l6ArgText_any (eAt L k).K (eAt L k).S (eAt L k).V W hv)
          rw [show argT (eAt L k).K (eAt L k).S (eAt L k).V = (eAt L k).tx from rfl] at HVx
          by_cases h0 : k = 0
          · subst h0
            have HJ : Hid (t ++ (eAt L 0).tx = pre ++ ⟨(joinA (L.take 1)).toArray⟩) := by
              unfold Hid
              have h1 := HTake.out
              rw [Nat.zero_add, List.take_zero, List.nil_append] at h1
              rw [h1, HT.out, List.take_zero, joinA_nil]
              have e : joinA [eAt L 0] = (eAt L 0).tx.data.toList := by have := joinA_snoc [] (eAt L 0); simpa using this
              rw [e]
              apply ByteArray.ext; apply Array.toList_inj.1; simp
            simp only [Nat.zero_mul, Nat.add_zero] at c0 c1 c2 c3 c4
            generalize (eAt L 0).tx = x at hxs HVx HJ
            have hts1 : t.size ≤ 14 := by omega
            clear hv hts
            go_wp2_with fail
            refine (HVx.out _).mono ?_
            rintro e w2 ⟨rfl, hb2⟩
            have hbel2 : Below w1.heap.size w1 w2 := hbel.trans (hb2.mono hbel.size)
            clear hb2 hbel c0 c1 c2 c3 c4 p1 hB
            go_wp2
            go_roundw
            case rel => exact ⟨1, t ++ x, by omega, by go_num, rfl, by rw [ByteArray.size_append]; omega, HJ.out, hbel2⟩
            case measure => simp [intOf]; omega
          · have hne : L.take k ≠ [] := fun e => by have := congrArg List.length e; rw [List.length_take, List.length_nil] at this; have := HN.out; omega
            have HJ : Hid (t ++ ⟨#[44, 32]⟩ ++ (eAt L k).tx = pre ++ ⟨(joinA (L.take (k + 1))).toArray⟩) := by
              unfold Hid
              rw [HTake.out, joinA_snoc, if_neg hne, HT.out]
              apply ByteArray.ext; apply Array.toList_inj.1; simp
            generalize (eAt L k).tx = x at hxs HVx HJ
            have hkp : (0 : Int) < (k : Int) := by omega
            clear hv hne h0
            go_wp2_with fail
            refine (HVx.out _).mono ?_
            rintro e w2 ⟨rfl, hb2⟩
            have hbel2 : Below w1.heap.size w1 w2 := hbel.trans (hb2.mono hbel.size)
            have hsz2 : (t ++ ⟨#[44, 32]⟩ : ByteArray).size = t.size + 2 := by rw [ByteArray.size_append, c44]
            clear hb2 hbel c0 c1 c2 c3 c4 p1 hB
            go_wp2
            go_roundw
            case rel => exact ⟨k + 1, t ++ ⟨#[44, 32]⟩ ++ x, by omega, by go_num, rfl, by rw [ByteArray.size_append, hsz2]; omega, HJ.out, hbel2⟩
            case measure => simp [intOf]; omega
        · obtain rfl : k = n := by omega
          have HT2 : Hid (t = pre ++ ⟨(joinA L).toArray⟩) := by
            have := HT.out
            rw [HN.out, List.take_length] at this
            exact this
          go_wp2
          go_ret
          exact ⟨by rw [HV.out, ← HT2.out]; rfl, hB⟩
end Go.Proofs.YtcfhpcbkdpgboaaGreatDoor
/-
  What the tested function answers for an argument's text: argT.
-/
namespace Go.Proofs.YtcfhpcbkdpgboaaGreatDoor
open Go.RowKit
set_option linter.unusedVariables false

set_option maxRecDepth 100000 in
set_option maxHeartbeats 1600000 in
theorem argText_any (K : Int) (S : ByteArray) (V : V3) (w : World) (hs : S.size ≤ maxLen) (hv : V.S.size ≤ maxLen) (ht : Tab w) :
    Calls Tryz.prog 73 #[.agg #[.int .i64 K, .string S, .int .i64 V.K, .int .i64 V.N, .string V.S]] w fun e w' => e = .returned (.string (argT K S V)) ∧ Below w.heap.size w w' := by
  have b0 := below_al w (.cells #[.int .i64 K, .string S, .int .i64 V.K, .int .i64 V.N, .string V.S] 63)
  have HTab := hide (ht.later b0 (Nat.le_refl _))
  clear ht
  by_cases h1 : K = 1
  · subst h1
    go_enter Tryz.func73, Tryz.ntmps73
    go_wp2
    go_ret
    exact ⟨rfl, b0⟩
  · have k1 : (K == 1) = false := by simpa using h1
    by_cases h2 : K = 2
    · subst h2
      go_enter Tryz.func73, Tryz.ntmps73
      go_wp2_with fail
      refine (implValText_any _ _ _ _ hv HTab.out).mono ?_
      rintro e w1 ⟨rfl, hb⟩
      have B1 : Below w.heap.size w w1 := b0.trans (hb.mono b0.size)
      go_wp2
      go_ret
      exact ⟨rfl, B1⟩
    · have k2 : (K == 2) = false := by simpa using h2
      have HR : Hid (argT K S V = ⟨#[95]⟩) := by unfold Hid argT; rw [if_neg h1, if_neg h2]
      clear h1 h2
      go_enter Tryz.func73, Tryz.ntmps73
      go_wp2
      go_ret
      exact ⟨by rw [HR.out]; rfl, b0⟩
end Go.Proofs.YtcfhpcbkdpgboaaGreatDoor
/-
  What the text of a condition is; both CondTexts.
-/
namespace Go.Proofs.YtcfhpcbkdpgboaaGreatDoor
open Go.RowKit
set_option linter.unusedVariables false

/-- a condition's text -/
def condT (Op : Int) (L R : A5) : ByteArray := if condB Op L R then L.tx ++ ⟨#[32]⟩ ++ signT Op ++ ⟨#[32]⟩ ++ R.tx else ⟨#[]⟩
theorem condT_no {Op : Int} {L R : A5} (h : condB Op L R = false) : condT Op L R = ⟨#[]⟩ := by unfold condT; rw [if_neg (by rw [h]; simp)]
theorem condT_yes {Op : Int} {L R : A5} (h : condB Op L R = true) : condT Op L R = L.tx ++ ⟨#[32]⟩ ++ signT Op ++ ⟨#[32]⟩ ++ R.tx := by unfold condT; rw [if_pos h]
theorem condB_open {Op : Int} {L R : A5} (h : condB Op L R = true) : inB Op 1 3 = true ∧ L.ok = true ∧ R.ok = true := by
  unfold condB mayB at h
  simp only [Bool.and_eq_true] at h
  exact ⟨h.1, h.2.1.1, h.2.2.1⟩
theorem signT_size (Op : Int) : (signT Op).size ≤ 1 := by
  unfold signT
  split
  · decide
  · split
    · decide
    · split <;> decide

set_option maxRecDepth 100000 in
set_option maxHeartbeats 1600000 in
theorem implCondText_any (Op : Int) (L R : A5) (w : World) (hl : L.fits) (hr : R.fits) (ht : Tab w) :
    Calls Tryz.prog 36 #[.agg #[.int .i64 Op, .int .i64 L.K, .string L.S, .int .i64 L.V.K, .int .i64 L.V.N, .string L.V.S, .int .i64 R.K, .string R.S, .int .i64 R.V.K, .int .i64 R.V.N, .string R.V.S]] w fun e w' => e = .returned (.string (condT Op L R)) ∧ Below w.heap.size w w' := by
  obtain ⟨tx, htx⟩ : ∃ tx, tx = condT Op L R := ⟨_, rfl⟩
  rw [← htx]
  have HTx := hide htx
  have HCo := hide (fun W => implCondOk_any Op L R W hl hr)
  have hN : condB Op L R = false → tx = ⟨#[]⟩ := fun h => by rw [htx, condT_no h]
  have hY : condB Op L R = true → tx = L.tx ++ ⟨#[32]⟩ ++ signT Op ++ ⟨#[32]⟩ ++ R.tx ∧ inB Op 1 3 = true ∧ L.tx.size ≤ 22 ∧ R.tx.size ≤ 22 := fun h => ⟨by rw [htx, condT_yes h], (condB_open h).1, txA_size (condB_open h).2.1, txA_size (condB_open h).2.2⟩
  have HA1 := hide (fun W (h : Tab W) => argText_any L.K L.S L.V W hl.1 hl.2 h)
  have HA2 := hide (fun W (h : Tab W) => argText_any R.K R.S R.V W hr.1 hr.2 h)
  obtain ⟨cb, hcb⟩ : ∃ cb, cb = condB Op L R := ⟨_, rfl⟩
  rw [← hcb] at hN hY HCo
  rw [show argT L.K L.S L.V = L.tx from rfl] at HA1
  rw [show argT R.K R.S R.V = R.tx from rfl] at HA2
  generalize L.tx = y at hY HA1
  generalize R.tx = z at hY HA2
  have HTab := hide ht
  clear htx HTx hcb ht
  obtain ⟨LK, LS, LVK, LVN, LVS⟩ := L
  obtain ⟨RK, RS, RVK, RVN, RVS⟩ := R
  have hX := boxk_new w #[.int .i64 Op, .int .i64 LK, .string LS, .int .i64 LVK, .int .i64 LVN, .string LVS, .int .i64 RK, .string RS, .int .i64 RVK, .int .i64 RVN, .string RVS] 65
  have b0 := below_al w (.cells #[.int .i64 Op, .int .i64 LK, .string LS, .int .i64 LVK, .int .i64 LVN, .string LVS, .int .i64 RK, .string RS, .int .i64 RVK, .int .i64 RVN, .string RVS] 65)
  clear hl hr
  go_enter Tryz.func36, Tryz.ntmps36
  go_wp2_with fail
  refine (HCo.out _).mono ?_
  rintro e w1 ⟨rfl, hb⟩
  have HX := hide (box_below hX hb (by simp))
  have hB : Below w.heap.size w w1 := b0.trans (hb.mono b0.size)
  clear hb hX b0 HCo
  cases cb
  · have HN := hide (hN rfl)
    clear hN hY
    go_wp2
    go_ret
    exact ⟨by rw [HN.out]; rfl, hB⟩
  · obtain ⟨hT, hi, hy, hz⟩ := hY rfl
    have HY := hide hT
    clear hN hY hT
    have x0 := boxk_cell HX.out 0 _ rfl
    go_wp2_with fail
    refine (signOf_any Op _).mono ?_
    rintro e w2 ⟨rfl, hb⟩
    have HX2 := hide (box_step HX.out hb)
    have hB2 : Below w.heap.size w w2 := hB.trans (hb.mono hB.size)
    clear hb HX hB x0
    obtain ⟨fn, hf⟩ := signF_yes hi
    have hst := signT_size Op
    rw [hf, hi]
    clear hf hi
    generalize signT Op = st at HY hst
    have HX3 := hide (box_old HX2.out (Array.getElem?_eq_some_iff.1 HX2.out).1 (.cells #[.string st, .func (.func fn) #[] #[]] 115))
    have HS3 := hide (boxk_new w2 #[.string st, .func (.func fn) #[] #[]] 115)
    have hB3 := hB2.alloc hB2.size (.cells #[.string st, .func (.func fn) #[] #[]] 115)
    clear HX2 hB2
    have n1 : ¬ 9223372036854775807 < y.size + 1 := by omega
    have m1 : y.size + 1 ≤ 9223372036854775807 := by omega
    have n2 : ¬ 9223372036854775807 < y.size + 1 + st.size := by omega
    have m2 : y.size + 1 + st.size ≤ 9223372036854775807 := by omega
    have n3 : ¬ 9223372036854775807 < y.size + 1 + st.size + 1 := by omega
    have m3 : y.size + 1 + st.size + 1 ≤ 9223372036854775807 := by omega
    have n4 : ¬ 9223372036854775807 < y.size + 1 + st.size + 1 + z.size := by omega
    have m4 : y.size + 1 + st.size + 1 + z.size ≤ 9223372036854775807 := by omega
    clear hy hz hst
    go_wp2_with fail
    generalize w2.alloc (.cells #[.string st, .func (.func fn) #[] #[]] 115) = w3 at HX3 HS3 hB3
    have HT1 := hide (show Tab w3.drew from HTab.out.later hB3.drew (Nat.le_refl _))
    have X1 := hide (show w3.drew.heap[w.heap.size]? = _ from HX3.out)
    have S1 := hide (show w3.drew.heap[w2.heap.size]? = _ from HS3.out)
    have B1 := hide (show Below w.heap.size w w3.drew from hB3.drew)
    have x1 := boxk_cell X1.out 1 _ rfl
    have x2 := boxk_cell X1.out 2 _ rfl
    have x3 := boxk_cell X1.out 3 _ rfl
    have x4 := boxk_cell X1.out 4 _ rfl
    have x5 := boxk_cell X1.out 5 _ rfl
    have x6 := boxk_cell X1.out 6 _ rfl
    have x7 := boxk_cell X1.out 7 _ rfl
    have x8 := boxk_cell X1.out 8 _ rfl
    have x9 := boxk_cell X1.out 9 _ rfl
    have x10 := boxk_cell X1.out 10 _ rfl
    have s0 := boxk_cell S1.out 0 _ rfl
    clear HX3 HS3 hB3 HTab
    go_region_held3 (fun W => W.cell? ⟨w.heap.size, 1, none⟩ = some (.int .i64 LK) ∧ W.cell? ⟨w.heap.size, 2, none⟩ = some (.string LS) ∧ W.cell? ⟨w.heap.size, 3, none⟩ = some (.int .i64 LVK) ∧ W.cell? ⟨w.heap.size, 4, none⟩ = some (.int .i64 LVN) ∧ W.cell? ⟨w.heap.size, 5, none⟩ = some (.string LVS) ∧ W.cell? ⟨w.heap.size, 6, none⟩ = some (.int .i64 RK) ∧ W.cell? ⟨w.heap.size, 7, none⟩ = some (.string RS) ∧ W.cell? ⟨w.heap.size, 8, none⟩ = some (.int .i64 RVK) ∧ W.cell? ⟨w.heap.size, 9, none⟩ = some (.int .i64 RVN) ∧ W.cell? ⟨w.heap.size, 10, none⟩ = some (.string RVS) ∧ W.cell? ⟨w2.heap.size, 0, none⟩ = some (.string st)) (first | exact ⟨x1, x2, x3, x4, x5, x6, x7, x8, x9, x10, s0⟩ | exact ⟨boxk_cell (box_step X1.out b1) 1 _ rfl, boxk_cell (box_step X1.out b1) 2 _ rfl, boxk_cell (box_step X1.out b1) 3 _ rfl, boxk_cell (box_step X1.out b1) 4 _ rfl, boxk_cell (box_step X1.out b1) 5 _ rfl, boxk_cell (box_step X1.out b1) 6 _ rfl, boxk_cell (box_step X1.out b1) 7 _ rfl, boxk_cell (box_step X1.out b1) 8 _ rfl, boxk_cell (box_step X1.out b1) 9 _ rfl, boxk_cell (box_step X1.out b1) 10 _ rfl, boxk_cell (box_step S1.out b1) 0 _ rfl⟩ | exact ⟨boxk_cell (box_step (box_step X1.out b1) b2) 1 _ rfl, boxk_cell (box_step (box_step X1.out b1) b2) 2 _ rfl, boxk_cell (box_step (box_step X1.out b1) b2) 3 _ rfl, boxk_cell (box_step (box_step X1.out b1) b2) 4 _ rfl, boxk_cell (box_step (box_step X1.out b1) b2) 5 _ rfl, boxk_cell (box_step (box_step X1.out b1) b2) 6 _ rfl, boxk_cell (box_step (box_step X1.out b1) b2) 7 _ rfl, boxk_cell (box_step (box_step X1.out b1) b2) 8 _ rfl, boxk_cell (box_step (box_step X1.out b1) b2) 9 _ rfl, boxk_cell (box_step (box_step X1.out b1) b2) 10 _ rfl, boxk_cell (box_step (box_step S1.out b1) b2) 0 _ rfl⟩)
      (first | (go_at_call_of 73 LK; refine (HA1.out _ ?_).mono ?_; (with_reducible exact HT1.out); rintro e u1 ⟨rfl, b1⟩) | (go_at_call_of 73 RK; refine (HA2.out _ ?_).mono ?_; (with_reducible exact HT1.out.later b1 (Nat.le_refl _)); rintro e u2 ⟨rfl, b2⟩))
    all_goals
      have BE : Below w.heap.size w u2 := (B1.out.trans (b1.mono B1.out.size)).trans (b2.mono (B1.out.trans (b1.mono B1.out.size)).size)
      clear b1 b2 X1 S1 B1 HT1 HA1 HA2
      go_wp2
      go_ret
      exact ⟨by rw [HY.out]; rfl, BE⟩
end Go.Proofs.YtcfhpcbkdpgboaaGreatDoor
/-
  A term's text: exprT, and what the tested function answers.
-/
namespace Go.Proofs.YtcfhpcbkdpgboaaGreatDoor
open Go.RowKit
set_option linter.unusedVariables false

/-- a term's text -/
def exprT (Op : ByteArray) (L R : A5) : ByteArray := if exprB Op L R then (if Op.size = 0 then L.tx else L.tx ++ ⟨#[32]⟩ ++ Op ++ ⟨#[32]⟩ ++ R.tx) else ⟨#[]⟩
theorem exprT_no {Op : ByteArray} {L R : A5} (h : exprB Op L R = false) : exprT Op L R = ⟨#[]⟩ := by unfold exprT; rw [if_neg (by rw [h]; simp)]
theorem exprT_one {L R : A5} (h : exprB ⟨#[]⟩ L R = true) : exprT ⟨#[]⟩ L R = L.tx := by unfold exprT; rw [if_pos h, if_pos (by rfl)]
theorem exprT_two {Op : ByteArray} {L R : A5} (h : exprB Op L R = true) (h0 : Op.size ≠ 0) : exprT Op L R = L.tx ++ ⟨#[32]⟩ ++ Op ++ ⟨#[32]⟩ ++ R.tx := by unfold exprT; rw [if_pos h, if_neg h0]
theorem exprB_left {Op : ByteArray} {L R : A5} (h : exprB Op L R = true) : L.ok = true := by
  rcases op_cases Op with e | e | e | ⟨_, _, _, h0, h1, h2⟩
  · rw [e, exprB0] at h; simp only [mayB, Bool.and_eq_true] at h; exact h.1.1
  · rw [e, exprB1] at h; simp only [mayB, Bool.and_eq_true] at h; exact h.1.1
  · rw [e, exprB2] at h; simp only [mayB, Bool.and_eq_true] at h; exact h.1.1
  · rw [exprB_no L R h0 h1 h2] at h; cases h
theorem exprB_right {Op : ByteArray} {L R : A5} (h : exprB Op L R = true) (hn : Op.size ≠ 0) : R.ok = true ∧ Op.size = 1 := by
  rcases op_cases Op with e | e | e | ⟨_, _, _, h0, h1, h2⟩
  · rw [e] at hn; exact absurd rfl hn
  · rw [e, exprB1] at h; simp only [mayB, Bool.and_eq_true] at h; exact ⟨h.2.1, by rw [e]; rfl⟩
  · rw [e, exprB2] at h; simp only [mayB, Bool.and_eq_true] at h; exact ⟨h.2.1, by rw [e]; rfl⟩
  · rw [exprB_no L R h0 h1 h2] at h; cases h

set_option maxRecDepth 100000 in
set_option maxHeartbeats 3200000 in
theorem implExprText_any (Op : ByteArray) (L R : A5) (w : World) (hl : L.fits) (hr : R.fits) (ht : Tab w) :
    Calls Tryz.prog 78 #[.agg #[.string Op, .int .i64 L.K, .string L.S, .int .i64 L.V.K, .int .i64 L.V.N, .string L.V.S, .int .i64 R.K, .string R.S, .int .i64 R.V.K, .int .i64 R.V.N, .string R.V.S]] w fun e w' => e = .returned (.string (exprT Op L R)) ∧ Below w.heap.size w w' := by
  obtain ⟨tx, htx⟩ : ∃ tx, tx = exprT Op L R := ⟨_, rfl⟩
  rw [← htx]
  have HCo := hide (fun W => implExprOk_any Op L R W hl hr)
  have hN : exprB Op L R = false → tx = ⟨#[]⟩ := fun h => by rw [htx, exprT_no h]
  have hO : exprB Op L R = true → Op.size = 0 → tx = L.tx ∧ L.tx.size ≤ 22 := fun h h0 => by
    obtain rfl := empty_of_size h0
    exact ⟨by rw [htx, exprT_one h], txA_size (exprB_left h)⟩
  have hY : exprB Op L R = true → Op.size ≠ 0 → tx = L.tx ++ ⟨#[32]⟩ ++ Op ++ ⟨#[32]⟩ ++ R.tx ∧ L.tx.size ≤ 22 ∧ R.tx.size ≤ 22 ∧ Op.size = 1 := fun h h0 => ⟨by rw [htx, exprT_two h h0], txA_size (exprB_left h), txA_size (exprB_right h h0).1, (exprB_right h h0).2⟩
  have HA1 := hide (fun W (h : Tab W) => argText_any L.K L.S L.V W hl.1 hl.2 h)
  have HA2 := hide (fun W (h : Tab W) => argText_any R.K R.S R.V W hr.1 hr.2 h)
  obtain ⟨cb, hcb⟩ : ∃ cb, cb = exprB Op L R := ⟨_, rfl⟩
  rw [← hcb] at hN hO hY HCo
  rw [show argT L.K L.S L.V = L.tx from rfl] at HA1
  rw [show argT R.K R.S R.V = R.tx from rfl] at HA2
  generalize L.tx = y at hO hY HA1
  generalize R.tx = z at hY HA2
  have HTab := hide ht
  clear htx hcb ht
  obtain ⟨LK, LS, LVK, LVN, LVS⟩ := L
  obtain ⟨RK, RS, RVK, RVN, RVS⟩ := R
  have hX := boxk_new w #[.string Op, .int .i64 LK, .string LS, .int .i64 LVK, .int .i64 LVN, .string LVS, .int .i64 RK, .string RS, .int .i64 RVK, .int .i64 RVN, .string RVS] 121
  have b0 := below_al w (.cells #[.string Op, .int .i64 LK, .string LS, .int .i64 LVK, .int .i64 LVN, .string LVS, .int .i64 RK, .string RS, .int .i64 RVK, .int .i64 RVN, .string RVS] 121)
  clear hl hr
  go_enter Tryz.func78, Tryz.ntmps78
  go_wp2_with fail
  refine (HCo.out _).mono ?_
  rintro e w1 ⟨rfl, hb⟩
  have HX := hide (box_below hX hb (by simp))
  have hB : Below w.heap.size w w1 := b0.trans (hb.mono b0.size)
  clear hb hX b0 HCo
  cases cb
  · have HN := hide (hN rfl)
    clear hN hY hO
    go_wp2
    go_ret
    exact ⟨by rw [HN.out]; rfl, hB⟩
  by_cases h0 : Op.size = 0
  · obtain ⟨hT, hy⟩ := hO rfl h0
    have HY := hide hT
    obtain rfl := empty_of_size h0
    clear hN hO hY hT
    have x0 := boxk_cell HX.out 0 _ rfl
    have x1 := boxk_cell HX.out 1 _ rfl
    have x2 := boxk_cell HX.out 2 _ rfl
    have x3 := boxk_cell HX.out 3 _ rfl
    have x4 := boxk_cell HX.out 4 _ rfl
    have x5 := boxk_cell HX.out 5 _ rfl
    have x6 := boxk_cell HX.out 6 _ rfl
    have x7 := boxk_cell HX.out 7 _ rfl
    have x8 := boxk_cell HX.out 8 _ rfl
    have x9 := boxk_cell HX.out 9 _ rfl
    have x10 := boxk_cell HX.out 10 _ rfl
    have HT1 := hide (HTab.out.later hB (Nat.le_refl _))
    go_wp2_with fail
    refine (HA1.out _ HT1.out).mono ?_
    rintro e w2 ⟨rfl, hb2⟩
    have hB2 : Below w.heap.size w w2 := hB.trans (hb2.mono hB.size)
    clear hb2 hB x0 x1 x2 x3 x4 x5 x6 x7 x8 x9 x10 HX
    go_wp2_with fail
    refine (cloneS_any _ _ (by omega)).mono ?_
    rintro e w3 ⟨rfl, hb3⟩
    have hB3 : Below w.heap.size w w3 := hB2.trans (hb3.mono hB2.size)
    go_wp2
    go_ret
    exact ⟨by rw [HY.out]; rfl, hB3⟩
  · obtain ⟨hT, hy, hz, ho⟩ := hY rfl h0
    have HY := hide hT
    have k0 := isEmpty_false h0
    clear hN hO hY hT h0
    have n1 : ¬ 9223372036854775807 < y.size + 1 := by omega
    have m1 : y.size + 1 ≤ 9223372036854775807 := by omega
    have n2 : ¬ 9223372036854775807 < y.size + 1 + Op.size := by omega
    have m2 : y.size + 1 + Op.size ≤ 9223372036854775807 := by omega
    have n3 : ¬ 9223372036854775807 < y.size + 1 + Op.size + 1 := by omega
    have m3 : y.size + 1 + Op.size + 1 ≤ 9223372036854775807 := by omega
    have n4 : ¬ 9223372036854775807 < y.size + 1 + Op.size + 1 + z.size := by omega
    have m4 : y.size + 1 + Op.size + 1 + z.size ≤ 9223372036854775807 := by omega
    clear hy hz ho
    have x0 := boxk_cell HX.out 0 _ rfl
    go_wp2_with fail
    clear x0
    have HT1 := hide (show Tab w1.drew from HTab.out.later hB.drew (Nat.le_refl _))
    have X1 := hide (show w1.drew.heap[w.heap.size]? = _ from HX.out)
    have B1 := hide (show Below w.heap.size w w1.drew from hB.drew)
    have x0 := boxk_cell X1.out 0 _ rfl
    have x1 := boxk_cell X1.out 1 _ rfl
    have x2 := boxk_cell X1.out 2 _ rfl
    have x3 := boxk_cell X1.out 3 _ rfl
    have x4 := boxk_cell X1.out 4 _ rfl
    have x5 := boxk_cell X1.out 5 _ rfl
    have x6 := boxk_cell X1.out 6 _ rfl
    have x7 := boxk_cell X1.out 7 _ rfl
    have x8 := boxk_cell X1.out 8 _ rfl
    have x9 := boxk_cell X1.out 9 _ rfl
    have x10 := boxk_cell X1.out 10 _ rfl
    clear HX hB HTab
    go_region_held3 (fun W => W.cell? ⟨w.heap.size, 0, none⟩ = some (.string Op) ∧ W.cell? ⟨w.heap.size, 1, none⟩ = some (.int .i64 LK) ∧ W.cell? ⟨w.heap.size, 2, none⟩ = some (.string LS) ∧ W.cell? ⟨w.heap.size, 3, none⟩ = some (.int .i64 LVK) ∧ W.cell? ⟨w.heap.size, 4, none⟩ = some (.int .i64 LVN) ∧ W.cell? ⟨w.heap.size, 5, none⟩ = some (.string LVS) ∧ W.cell? ⟨w.heap.size, 6, none⟩ = some (.int .i64 RK) ∧ W.cell? ⟨w.heap.size, 7, none⟩ = some (.string RS) ∧ W.cell? ⟨w.heap.size, 8, none⟩ = some (.int .i64 RVK) ∧ W.cell? ⟨w.heap.size, 9, none⟩ = some (.int .i64 RVN) ∧ W.cell? ⟨w.heap.size, 10, none⟩ = some (.string RVS)) (first | exact ⟨x0, x1, x2, x3, x4, x5, x6, x7, x8, x9, x10⟩ | exact ⟨boxk_cell (box_step X1.out b1) 0 _ rfl, boxk_cell (box_step X1.out b1) 1 _ rfl, boxk_cell (box_step X1.out b1) 2 _ rfl, boxk_cell (box_step X1.out b1) 3 _ rfl, boxk_cell (box_step X1.out b1) 4 _ rfl, boxk_cell (box_step X1.out b1) 5 _ rfl, boxk_cell (box_step X1.out b1) 6 _ rfl, boxk_cell (box_step X1.out b1) 7 _ rfl, boxk_cell (box_step X1.out b1) 8 _ rfl, boxk_cell (box_step X1.out b1) 9 _ rfl, boxk_cell (box_step X1.out b1) 10 _ rfl⟩ | exact ⟨boxk_cell (box_step (box_step X1.out b1) b2) 0 _ rfl, boxk_cell (box_step (box_step X1.out b1) b2) 1 _ rfl, boxk_cell (box_step (box_step X1.out b1) b2) 2 _ rfl, boxk_cell (box_step (box_step X1.out b1) b2) 3 _ rfl, boxk_cell (box_step (box_step X1.out b1) b2) 4 _ rfl, boxk_cell (box_step (box_step X1.out b1) b2) 5 _ rfl, boxk_cell (box_step (box_step X1.out b1) b2) 6 _ rfl, boxk_cell (box_step (box_step X1.out b1) b2) 7 _ rfl, boxk_cell (box_step (box_step X1.out b1) b2) 8 _ rfl, boxk_cell (box_step (box_step X1.out b1) b2) 9 _ rfl, boxk_cell (box_step (box_step X1.out b1) b2) 10 _ rfl⟩)
      (first | (go_at_call_of 73 LK; refine (HA1.out _ ?_).mono ?_; (with_reducible exact HT1.out); rintro e u1 ⟨rfl, b1⟩) | (go_at_call_of 73 RK; refine (HA2.out _ ?_).mono ?_; (with_reducible exact HT1.out.later b1 (Nat.le_refl _)); rintro e u2 ⟨rfl, b2⟩))
    all_goals
      have BE : Below w.heap.size w u2 := (B1.out.trans (b1.mono B1.out.size)).trans (b2.mono (B1.out.trans (b1.mono B1.out.size)).size)
      clear b1 b2 X1 B1 HT1 HA1 HA2
      go_wp2
      go_ret
      exact ⟨by rw [HY.out]; rfl, BE⟩
end Go.Proofs.YtcfhpcbkdpgboaaGreatDoor
/-
  The texts of terms, joined, behind a name: plainly, and what the tested program's functions answer.
-/
namespace Go.Proofs.YtcfhpcbkdpgboaaGreatDoor
open Go.RowKit
set_option linter.unusedVariables false

def X11.tx (x : X11) : ByteArray := exprT x.Op x.L x.R
theorem txX_size {x : X11} (h : x.ok = true) : x.tx.size ≤ 47 := by
  have h' : exprB x.Op x.L x.R = true := h
  by_cases h0 : x.Op.size = 0
  · have e : x.Op = ⟨#[]⟩ := empty_of_size h0
    unfold X11.tx
    rw [e] at h' ⊢
    rw [exprT_one h']
    have := txA_size (exprB_left h')
    omega
  · unfold X11.tx
    rw [exprT_two h' h0]
    have h1 := txA_size (exprB_left h')
    have h2 := txA_size (exprB_right h' h0).1
    have h3 := (exprB_right h' h0).2
    have c32 : (ByteArray.mk #[32]).size = 1 := rfl
    simp only [ByteArray.size_append, c32]
    omega

/-- the texts with a comma and a blank between -/
def joinX (L : List X11) : List UInt8 := Lib.join (L.map fun v => v.tx.data.toList) [44, 32]
theorem joinX_nil : joinX [] = [] := rfl
theorem joinX_snoc (L : List X11) (v : X11) : joinX (L ++ [v]) = if L = [] then v.tx.data.toList else joinX L ++ (44 :: 32 :: v.tx.data.toList) := by
  unfold joinX Lib.join
  induction L with
  | nil => simp [List.intercalate]
  | cons a r ih =>
    rw [if_neg (by simp)]
    cases r with
    | nil => simp [List.intercalate]
    | cons b s =>
      rw [if_neg (by simp)] at ih
      simp only [List.map_append, List.map_cons, List.map_nil, List.cons_append] at ih ⊢
      have e : ∀ (p q : List UInt8) (t : List (List UInt8)), List.intercalate [44, 32] (p :: q :: t) = p ++ (44 :: 32 :: List.intercalate [44, 32] (q :: t)) := fun p q t => by simp [List.intercalate, List.intersperse]
      rw [e, e, ih]
      simp
theorem joinX_take {L : List X11} (h : ∀ v ∈ L, v.ok = true) : ∀ k, k ≤ L.length → (joinX (L.take k)).length ≤ 49 * k
  | 0, _ => by simp [joinX_nil]
  | k + 1, hk => by
    have ih := joinX_take h k (by omega)
    have h2 := txX_size (h L[k] (List.getElem_mem (by omega)))
    have e : L[k].tx.data.toList.length = L[k].tx.size := by rw [Array.length_toList]; rfl
    rw [List.take_succ_eq_append_getElem (by omega), joinX_snoc]
    split
    · omega
    · simp only [List.length_append, List.length_cons]; omega
theorem joinX_le {L : List X11} (h : ∀ v ∈ L, v.ok = true) : (joinX L).length ≤ 49 * L.length := by
  have := joinX_take h L.length (Nat.le_refl _)
  rwa [List.take_length] at this

/-- a name with terms behind it -/
def namedT (nm : ByteArray) (L : List X11) : ByteArray := nm ++ ⟨#[40]⟩ ++ ⟨(joinX L).toArray⟩ ++ ⟨#[41]⟩
theorem namedX_open {nm : ByteArray} {L : List X11} (h : namedX nm L = true) : nameB nm = true ∧ L.length ≤ 5 ∧ ∀ v ∈ L, v.ok = true := by
  unfold namedX at h
  simp only [Bool.and_eq_true, decide_eq_true_eq, List.all_eq_true] at h
  exact ⟨h.1.1, h.1.2, h.2⟩
theorem joinX_size {L : List X11} (h5 : L.length ≤ 5) (h : ∀ v ∈ L, v.ok = true) : (⟨(joinX L).toArray⟩ : ByteArray).size ≤ 245 := by
  have := joinX_le h
  show (joinX L).toArray.size ≤ 245
  simp only [List.size_toArray]
  omega
theorem namedT_size {nm : ByteArray} {L : List X11} (h : namedX nm L = true) : (namedT nm L).size ≤ 259 := by
  obtain ⟨h1, h2, h3⟩ := namedX_open h
  have c40 : (ByteArray.mk #[40]).size = 1 := rfl
  have c41 : (ByteArray.mk #[41]).size = 1 := rfl
  have := joinX_size h2 h3
  have := nameP_size h1
  unfold namedT
  simp only [ByteArray.size_append, c40, c41]
  omega

theorem infoSX : (Tryz.prog.info? 9).map (fun i => (i.zero, i.size, i.bytes)) = some (some (.string ⟨#[]⟩), 1, 16) := by kernel_rfl
def cellsX (L : List X11) : List Value := L.map fun v => .string v.tx
theorem cellsX_snoc (L : List X11) (v : X11) : cellsX L ++ [.string v.tx] = cellsX (L ++ [v]) := by simp [cellsX]
def txsX (L : List X11) : List ByteArray := L.map X11.tx
theorem txsX_join (L : List X11) : Lib.join ((txsX L).map (·.data.toList)) (ByteArray.mk #[44, 32]).data.toList = joinX L := by
  unfold txsX joinX
  rw [List.map_map]
  rfl
theorem own_txsX {W : World} {base g c n : Nat} {L : List X11} (h : W.ownsRow base 9 1 (.slice (some ⟨g, 0, none⟩) n c) n (cellsX L)) :
    ∀ (j : Nat) x, (txsX L)[j]? = some x → W.cell? ⟨g, 0 + j, none⟩ = some (.string x) := by
  intro j x hj
  have := h.cells (g := g) rfl j (.string x) (by unfold txsX at hj; unfold cellsX; rw [List.getElem?_map] at hj ⊢; cases hq : L[j]? with
    | none => rw [hq] at hj; cases hj
    | some v => rw [hq] at hj; simp at hj ⊢; exact hj)
  rwa [Addr.add_lit] at this
theorem own_ltX {W : World} {base g c n : Nat} {T : TypeId} {xs : List Value} (h : W.ownsRow base T 1 (.slice (some ⟨g, 0, none⟩) n c) n xs) : g < W.heap.size ∧ n ≤ c := by
  refine ⟨(h.lt g rfl).2, ?_⟩
  rcases h.2 with ⟨h1, _⟩ | ⟨g', cap', cur, h1, hb', hh, hnc, _⟩
  · simp at h1
  · simp only [Value.slice.injEq] at h1; omega
theorem ret_strX {a b : ByteArray} (h : a = b) : Ending.returned (.string a) = .returned (.string b) := by rw [h]
theorem src1X (W : World) (x : ByteArray) : ∀ j u, ([.string x] : List Value)[j]? = some u → (W.alloc (.cells #[.string x] 9)).cell? ((⟨W.heap.size, 0, none⟩ : Addr).add j) = some u := by
  intro j u hj
  rw [Addr.add_lit, Nat.zero_add]
  have hb : (W.alloc (.cells #[.string x] 9)).heap[W.heap.size]? = some (.cells #[.string x] 9 (0, 0)) := by rw [heap_alloc_new]
  match j, hj with
  | 0, hj => rw [cell_of_row _ _ 0 _ _ (0, 0) hb]; simpa using hj
theorem one1X (x : ByteArray) : ∀ u ∈ ([.string x] : List Value), u.oneCell' = true := by
  intro u hu
  simp only [List.mem_cons, List.not_mem_nil, or_false] at hu
  rw [hu]; rfl

set_option maxRecDepth 100000 in
set_option maxHeartbeats 3200000 in
theorem joinExprs_any (a : Option Addr) (cap : Nat) (L : List X11) (sep : ByteArray) (w : World) (hr : RdExpr w a L) (hs : ∀ v ∈ L, v.fits) (hm : L.length ≤ 5) (ht : Tab w) (hlen : (Lib.join ((txsX L).map (·.data.toList)) sep.data.toList).length ≤ 140737488355328) :
    Calls Tryz.prog 118 #[.slice a L.length cap, .func (.func 78) #[] #[], .string sep] w fun e w' =>
      e = .returned (.string ⟨(Lib.join ((txsX L).map (·.data.toList)) sep.data.toList).toArray⟩) ∧ Below w.heap.size w w' := by
  obtain ⟨i0, hi, hz0, hz1, hz2⟩ := info_parts infoSX
  have HTab := hide ht
  have HS := hide hs
  have HL := hide hlen
  clear ht hs hlen
  obtain ⟨n, hN⟩ : ∃ n, n = L.length := ⟨_, rfl⟩
  rw [← hN] at hm ⊢
  have HN := hide hN
  clear hN
  have hz3 : (i0.bytes * n) = 16 * n := by rw [hz2]
  go_enter Tryz.func118, Tryz.ntmps118
  go_wp2_with (at_make; refine wpList_make_own _ rfl _ _ 72 rfl w.heap.size 9 i0 (.string ⟨#[]⟩) 1 Tryz.underlying72 hi hz0 hz1 _ _ _ n rfl rfl (by omega) ?b2 ?b3 (Nat.le_refl _) ?_)
  case b2 => rw [hz2]; omega
  case b3 => unfold maxLen; omega
  intro w2 ho2 hg2
  have b2 : Below w.heap.size w w2 := below_gn' hg2
  clear hg2
  go_wp2
  go_loopw [7, 15] (fun v i wr => ∃ (k g c : Nat), k ≤ n ∧ i = .int .i64 k ∧ v = .slice (some ⟨g, 0, none⟩) k c ∧ wr.ownsRow w.heap.size 9 1 (.slice (some ⟨g, 0, none⟩) k c) k (cellsX (L.take k)) ∧ Below w.heap.size w wr) (fun _ i _ => n - (intOf i).toNat)
  case atStart => exact ⟨0, w.heap.size, n, Nat.zero_le _, rfl, rfl, by rw [List.take_zero]; exact ho2, b2⟩
  case round =>
    clear ho2 b2
    obtain ⟨k, g, c, hk, rfl, rfl, hown, hbel⟩ := hrel
    by_cases hlt : k < n
    · have hlL : k < L.length := by rw [← HN.out]; exact hlt
      obtain ⟨b, off, hab, hbw, hc⟩ := RdExpr.cells hr (by omega)
      obtain ⟨c0, c1, c2, c3, c4, c5, c6, c7, c8, c9, c10⟩ := hc k hlL
      clear hc
      subst hab
      rw [← hbel.cell (p := ⟨b, off + k * 11, none⟩) hbw] at c0
      rw [← hbel.cell (p := ⟨b, off + k * 11 + 1, none⟩) hbw] at c1
      rw [← hbel.cell (p := ⟨b, off + k * 11 + 2, none⟩) hbw] at c2
      rw [← hbel.cell (p := ⟨b, off + k * 11 + 3, none⟩) hbw] at c3
      rw [← hbel.cell (p := ⟨b, off + k * 11 + 4, none⟩) hbw] at c4
      rw [← hbel.cell (p := ⟨b, off + k * 11 + 5, none⟩) hbw] at c5
      rw [← hbel.cell (p := ⟨b, off + k * 11 + 6, none⟩) hbw] at c6
      rw [← hbel.cell (p := ⟨b, off + k * 11 + 7, none⟩) hbw] at c7
      rw [← hbel.cell (p := ⟨b, off + k * 11 + 8, none⟩) hbw] at c8
      rw [← hbel.cell (p := ⟨b, off + k * 11 + 9, none⟩) hbw] at c9
      rw [← hbel.cell (p := ⟨b, off + k * 11 + 10, none⟩) hbw] at c10
      have HTake : Hid (cellsX (L.take k) ++ [.string (eAt L k).tx] = cellsX (L.take (k + 1))) := by unfold Hid; rw [cellsX_snoc, List.take_succ_eq_append_getElem hlL, eAt_in]
      have hS : (eAt L k).fits := by rw [eAt_in hlL]; exact HS.out _ (List.getElem_mem _)
      rw [show (eAt L k).tx = exprT (eAt L k).Op (eAt L k).L (eAt L k).R from rfl] at HTake
      generalize eAt L k = x at c0 c1 c2 c3 c4 c5 c6 c7 c8 c9 c10 HTake hS
      obtain ⟨hSo, hS0, hS1⟩ := hS
      have bA : Below w.heap.size w (wr.alloc (.cells #[.string x.Op, .int .i64 x.L.K, .string x.L.S, .int .i64 x.L.V.K, .int .i64 x.L.V.N, .string x.L.V.S, .int .i64 x.R.K, .string x.R.S, .int .i64 x.R.V.K, .int .i64 x.R.V.N, .string x.R.V.S] 121)) := hbel.alloc hbel.size _
      have hoA := hown.alloc (.cells #[.string x.Op, .int .i64 x.L.K, .string x.L.S, .int .i64 x.L.V.K, .int .i64 x.L.V.N, .string x.L.V.S, .int .i64 x.R.K, .string x.R.S, .int .i64 x.R.V.K, .int .i64 x.R.V.N, .string x.R.V.S] 121)
      have HTA : Hid (Tab (wr.alloc (.cells #[.string x.Op, .int .i64 x.L.K, .string x.L.S, .int .i64 x.L.V.K, .int .i64 x.L.V.N, .string x.L.V.S, .int .i64 x.R.K, .string x.R.S, .int .i64 x.R.V.K, .int .i64 x.R.V.N, .string x.R.V.S] 121))) := HTab.out.later bA (Nat.le_refl _)
      go_wp2_with fail
      refine (implExprText_any x.Op x.L x.R _ hS0 hS1 HTA.out).mono ?_
      rintro e w3 ⟨rfl, hb3⟩
      generalize exprT x.Op x.L x.R = tx at HTake
      have bel3 : Below w.heap.size w w3 := bA.trans (hb3.mono bA.size)
      have HO4 := hide ((ownsRow_below' hoA hb3).alloc (.cells #[.string tx] 9))
      have HB4 := hide (bel3.alloc bel3.size (.cells #[.string tx] 9))
      have HSrc := hide (src1X w3 tx)
      clear hb3 hbel hown hoA bA HTA c0 c1 c2 c3 c4 c5 c6 c7 c8 c9 c10 bel3
      go_wp2_with (at_builtin; refine wpList_append_lies _ rfl (.tmp 19) (.tmp 23) 72 rfl w.heap.size 9 i0 (.string ⟨#[]⟩) 1 16 Tryz.underlying72 hi hz0 hz1 hz2 rfl (by omega) (.slice (some ⟨g, 0, none⟩) k c) k (cellsX (L.take k)) rfl HO4.out ⟨w3.heap.size, 0, none⟩ 1 1 [.string tx] ?hx rfl HSrc.out (one1X tx) (by omega) (by unfold maxLen; omega) (by omega) HB4.out.size _ rfl ?_)
      case hx => simp [Act.eval]
      intro g5 c5 w5 ho5 hg5 hat5 hlt5
      have HO5 : Hid (w5.ownsRow w.heap.size 9 1 (.slice (some ⟨g5, 0, none⟩) (k + 1) c5) (k + 1) (cellsX (L.take (k + 1)))) := by
        unfold Hid
        rw [← HTake.out]
        exact ho5
      have HB5 := hide (HB4.out.grown hg5 HB4.out.size (fun k hk => (HO4.out.lt k hk).1))
      clear ho5 hg5 hat5 hlt5 HO4 HSrc HB4
      go_wp2
      go_roundw
      case rel => exact ⟨k + 1, g5, c5, by omega, by go_num, rfl, HO5.out, HB5.out⟩
      case measure => simp [intOf]; omega
    · obtain rfl : k = n := by omega
      have HO : Hid (wr.ownsRow w.heap.size 9 1 (.slice (some ⟨g, 0, none⟩) k c) k (cellsX L)) := by
        have := hown
        rw [HN.out, List.take_length, ← HN.out] at this
        exact this
      have hcs := own_txsX HO.out
      obtain ⟨hgl, hkc⟩ := own_ltX HO.out
      have htl : (txsX L).length = k := by unfold txsX; rw [List.length_map, HN.out]
      have hjoin := Tryz.strings_Join g 0 c (txsX L) sep wr hcs hgl (by rw [htl]; omega) (by rw [htl]; exact hkc) HL.out
      rw [htl] at hjoin
      clear hown HO
      go_wp2_with fail
      refine hjoin.mono ?_
      rintro e w6 ⟨rfl, hb6⟩
      have B6 : Below w.heap.size w w6 := hbel.trans (hb6.mono hbel.size)
      go_wp2
      go_ret
      exact ⟨rfl, B6⟩

set_option maxRecDepth 100000 in
set_option maxHeartbeats 1600000 in
theorem namedTextX_any (kd : ByteArray) (a : Option Addr) (cap : Nat) (L : List X11) (sep y : ByteArray) (w : World) (hkd : kd.size ≤ 12) (hr : RdExpr w a L) (hs : ∀ x ∈ L, x.fits) (hm : L.length ≤ 5) (ht : Tab w) (hy : y = ⟨(Lib.join ((txsX L).map (·.data.toList)) sep.data.toList).toArray⟩) (hlen : y.size ≤ 1000) :
    Calls Tryz.prog 77 #[.string kd, .slice a L.length cap, .func (.func 78) #[] #[], .string sep] w fun e w' =>
      e = .returned (.string (kd ++ ⟨#[40]⟩ ++ y ++ ⟨#[41]⟩)) ∧ Below w.heap.size w w' := by
  have hl2 : (Lib.join ((txsX L).map (·.data.toList)) sep.data.toList).length ≤ 1000 := by
    rw [hy] at hlen
    have h2 : (Lib.join ((txsX L).map (·.data.toList)) sep.data.toList).toArray.size ≤ 1000 := hlen
    simpa using h2
  have hj := joinExprs_any a cap L sep w hr hs hm ht (by omega)
  rw [← hy] at hj
  have HJ := hide hj
  clear hj hy
  have c40 : (ByteArray.mk #[40]).size = 1 := rfl
  have c41 : (ByteArray.mk #[41]).size = 1 := rfl
  have n0 : ¬ 9223372036854775807 < kd.size + 1 := by omega
  have m0 : kd.size + 1 ≤ 9223372036854775807 := by omega
  have n1 : ¬ 9223372036854775807 < kd.size + 1 + y.size := by omega
  have m1 : kd.size + 1 + y.size ≤ 9223372036854775807 := by omega
  have n2 : ¬ 9223372036854775807 < kd.size + 1 + y.size + 1 := by omega
  have m2 : kd.size + 1 + y.size + 1 ≤ 9223372036854775807 := by omega
  have n4 : ¬ 9223372036854775807 ≤ kd.size := by omega
  have m4 : kd.size < 9223372036854775807 := by omega
  have n5 : ¬ 9223372036854775807 ≤ kd.size + 1 + y.size := by omega
  have m5 : kd.size + 1 + y.size < 9223372036854775807 := by omega
  clear c40 c41
  go_enter Tryz.func77, Tryz.ntmps77
  go_wp2_with fail
  refine HJ.out.mono ?_
  rintro e w6 ⟨rfl, hb6⟩
  go_wp2
  go_ret
  exact ⟨ret_strX (by simp only [ByteArray.append_assoc]), hb6⟩


end Go.Proofs.YtcfhpcbkdpgboaaGreatDoor
/-
  The program's own table of an act's words, as its initialiser lays it.
-/
namespace Go.Proofs.YtcfhpcbkdpgboaaGreatDoor
open Go.RowKit
set_option linter.unusedVariables false

/-- the table of words reads as it is laid -/
def Wrd (w : World) : Prop := w.cell? ⟨0, 1, none⟩ = some (.string ⟨#[97, 115, 115, 101, 114, 116]⟩) ∧ w.cell? ⟨0, 2, none⟩ = some (.string ⟨#[100, 114, 111, 112]⟩) ∧ w.cell? ⟨0, 3, none⟩ = some (.string ⟨#[116, 97, 115, 107]⟩) ∧ w.cell? ⟨0, 4, none⟩ = some (.string ⟨#[116, 105, 109, 101, 114]⟩) ∧ w.cell? ⟨0, 5, none⟩ = some (.string ⟨#[100, 111, 110, 101]⟩) ∧ w.cell? ⟨0, 6, none⟩ = some (.string ⟨#[102, 97, 105, 108]⟩)
theorem Wrd.later {w w' : World} (h : Wrd w) (hb : Below w.heap.size w w') : Wrd w' := by
  have k : ∀ {a : Addr} {v : Value}, w.cell? a = some v → w'.cell? a = some v := fun {a v} h => by rw [hb.cell (World.block_lt_of_cell? w _ h)]; exact h
  exact ⟨k h.1, k h.2.1, k h.2.2.1, k h.2.2.2.1, k h.2.2.2.2.1, k h.2.2.2.2.2⟩

/-- An array of texts that reads as listed holds these texts, cell for cell. -/
theorem cells_of_texts {H : Type} {enc : TypeId × Value → H} {P : Program} {w : World} {base : Nat} {sp : Nat → Bool} {held : Bool} {fuel : Nat} {t e : TypeId} {n : Nat} {cs : List Value} {zs : List (List UInt8)} {p : List MemPlace}
    (ht : P.underlying t = some (.array n e)) (he : P.underlying e = some .string) (hce : P.cellsOf e = 1) (hct : P.cellsOf t = n)
    (h : DataW.trod enc P w base sp held fuel t cs = some (.agg (zs.map fun z => .lit (.string z)), p)) : cs = zs.map fun z => Value.string ⟨z.toArray⟩ := by
  cases fuel with
  | zero => simp [DataW.trod] at h
  | succ fuel =>
    simp only [DataW.trod, ht, hce, hct, Nat.mul_one] at h
    split at h
    · rename_i hl
      obtain ⟨xs, hm, hx⟩ := Option.map_eq_some_iff.1 h
      have hxs : xs.map (·.1) = zs.map fun z => (DataW.lit (.string z) : DataW H) := by
        have := congrArg Prod.fst hx
        simpa using this
      have hxl : xs.length = n := by simpa using Lib.mapM_length hm
      have hzl : zs.length = n := by
        have := congrArg List.length hxs
        simp at this
        omega
      apply List.ext_getElem?
      intro i
      by_cases hi : i < n
      · obtain ⟨b, hb, hf⟩ := Lib.mapM_at hm i i (by simp [hi])
        obtain ⟨z, hc, rfl, _⟩ := DataW.trod_string he hf
        have h1 : cs[i]? = some (.string z) := by
          have := congrArg (·[0]?) hc
          simpa [List.getElem?_take, List.getElem?_drop] using this
        have h2 : (xs.map (·.1))[i]? = some (DataW.lit (.string z.data.toList) : DataW H) := by simp [hb]
        rw [hxs] at h2
        simp only [List.getElem?_map, Option.map_eq_some_iff, DataW.lit.injEq, Lit.string.injEq] at h2
        obtain ⟨z', hz', e⟩ := h2
        simp [h1, hz', e]
      · rw [List.getElem?_eq_none (by omega), List.getElem?_eq_none (by simp; omega)]
    · cases h
theorem wrd_of_head {rest : List (String × DataW Unit)} {W : World} (h : laidMet Tryz.prog (("loop.example/g00282/impl.actWords", Rows.laid_loop_example_g00282_impl_actWords) :: rest) W) : Wrd W := by
  obtain ⟨ps, ⟨g', t', cs, fuel, p, q, hg', ht', hvar, hd, _, _⟩, _⟩ := h
  have hg : Tryz.prog.globalNamed "loop.example/g00282/impl.actWords" = some 0 := by kernel_rfl
  obtain rfl := Option.some.inj (hg.symm.trans hg')
  have hty : (Tryz.prog.globals[0]?).map (·.type) = some 118 := by kernel_rfl
  obtain rfl := Option.some.inj (hty.symm.trans ht')
  have hcs := cells_of_texts (zs := [[], [97, 115, 115, 101, 114, 116], [100, 114, 111, 112], [116, 97, 115, 107], [116, 105, 109, 101, 114], [100, 111, 110, 101], [102, 97, 105, 108]]) Tryz.underlying118 Tryz.underlying9 (by kernel_rfl) (by kernel_rfl) hd
  have hca : cs = _ := (Array.toArray_toList (xs := cs)).symm.trans (congrArg List.toArray hcs)
  rw [hca] at hvar
  have hc := fun i => World.var?_cell hg hvar i
  exact ⟨(hc 1).trans rfl, (hc 2).trans rfl, (hc 3).trans rfl, (hc 4).trans rfl, (hc 5).trans rfl, (hc 6).trans rfl⟩
end Go.Proofs.YtcfhpcbkdpgboaaGreatDoor
/-
  Sums and differences of values, plainly.
-/
namespace Go.Proofs.YtcfhpcbkdpgboaaGreatDoor
open Go.RowKit
set_option linter.unusedVariables false

/-- a value and whether it is one, as they are answered -/
def tupV (b : Bool) (n : Int) : Value := .tuple #[.agg #[.int .i64 (if b then 1 else 0), .int .i64 (if b then n else 0), .string ⟨#[]⟩], .bool b]
theorem tupV_no (n m : Int) : tupV false n = tupV false m := rfl
theorem tupV_open (b : Bool) (n : Int) : ∃ r1 r2 b', tupV b n = .tuple #[.agg #[.int .i64 r1, .int .i64 r2, .string ⟨#[]⟩], .bool b'] := ⟨_, _, _, rfl⟩
def isNum (K N : Int) (S : ByteArray) : Bool := K == 1 && valB K N S
def numN (K N : Int) (S : ByteArray) : Int := if isNum K N S then N else 0
theorem numN_in (K N : Int) (S : ByteArray) : -1000000000 ≤ numN K N S ∧ numN K N S ≤ 1000000000 := by
  unfold numN
  split
  · rename_i h
    simp only [isNum, Bool.and_eq_true, beq_iff_eq] at h
    obtain ⟨h1, h2⟩ := h
    subst h1
    by_cases hr : -1000000000 ≤ N ∧ N ≤ 1000000000
    · exact hr
    · rw [valB_out S hr] at h2; cases h2
  · omega
/-- what a sum or a difference n of two values answers -/
def sumV (K N : Int) (S : ByteArray) (K' N' : Int) (S' : ByteArray) (n : Int) : Value := tupV (isNum K N S && isNum K' N' S' && inB n (-1000000000) 1000000000) n
theorem sumV_eq {K N K' N' n m : Int} {S S' : ByteArray} (h : isNum K N S = true → isNum K' N' S' = true → n = m) : sumV K N S K' N' S' n = sumV K N S K' N' S' m := by
  unfold sumV
  cases h1 : isNum K N S
  · rfl
  · cases h2 : isNum K' N' S'
    · rfl
    · rw [h h1 h2]
theorem numN_of {K N : Int} {S : ByteArray} (h : isNum K N S = true) : numN K N S = N := by unfold numN; rw [if_pos h]
theorem valB_inB (n : Int) : valB 1 n ⟨#[]⟩ = inB n (-1000000000) 1000000000 := by
  have : (ByteArray.mk #[]).size = 0 := rfl
  simp [valB, this]
end Go.Proofs.YtcfhpcbkdpgboaaGreatDoor
/-
  An act's text: actT, and what the tested function answers.
-/
namespace Go.Proofs.YtcfhpcbkdpgboaaGreatDoor
open Go.RowKit
set_option linter.unusedVariables false

def itoaB (n : Int) : ByteArray := ⟨(Lib.itoa n).toArray⟩
theorem itoaB_size {n : Int} (h : -1000000000 ≤ n ∧ n ≤ 1000000000) : (itoaB n).size ≤ 22 := by
  have hv : valB 1 n ⟨#[]⟩ = true := by rw [valB_inB]; exact inB_t h
  have := tx_size (v := ⟨1, n, ⟨#[]⟩⟩) hv
  rwa [show (V3.tx ⟨1, n, ⟨#[]⟩⟩) = textV 1 n ⟨#[]⟩ from rfl, textV_num hv] at this
/-- what an act's text is, where it is right -/
def actW (K : Int) (nm : ByteArray) (L : List X11) (N : Int) (un : ByteArray) : ByteArray :=
  if K = 1 then ⟨#[97, 115, 115, 101, 114, 116, 32]⟩ ++ namedT nm L
  else if K = 2 then ⟨#[100, 114, 111, 112, 32]⟩ ++ itoaB N
  else if K = 3 then (if un.size = 0 then ⟨#[116, 97, 115, 107, 32]⟩ ++ namedT nm L else ⟨#[116, 97, 115, 107, 32]⟩ ++ namedT nm L ++ ⟨#[32, 117, 110, 100, 111, 32]⟩ ++ un)
  else if K = 4 then ⟨#[116, 105, 109, 101, 114, 32]⟩ ++ itoaB N ++ ⟨#[32]⟩ ++ namedT nm L
  else if K = 5 then ⟨#[100, 111, 110, 101]⟩ else ⟨#[102, 97, 105, 108]⟩
def actT (K : Int) (nm : ByteArray) (L : List X11) (N : Int) (un : ByteArray) : ByteArray := if actB K nm L N un then actW K nm L N un else ⟨#[]⟩
theorem actT_no {K : Int} {nm : ByteArray} {L : List X11} {N : Int} {un : ByteArray} (h : actB K nm L N un = false) : actT K nm L N un = ⟨#[]⟩ := by unfold actT; rw [if_neg (by rw [h]; simp)]
theorem actT_yes {K : Int} {nm : ByteArray} {L : List X11} {N : Int} {un : ByteArray} (h : actB K nm L N un = true) : actT K nm L N un = actW K nm L N un := by unfold actT; rw [if_pos h]

theorem act_open1 {nm : ByteArray} {L : List X11} {N : Int} {un : ByteArray} (h : actB 1 nm L N un = true) : namedX nm L = true ∧ N = 0 ∧ un = ⟨#[]⟩ := by
  rw [actB1] at h; simp only [Bool.and_eq_true, decide_eq_true_eq] at h; exact ⟨h.1.1, h.1.2, empty_of_size h.2⟩
theorem act_open2 {nm : ByteArray} {L : List X11} {N : Int} {un : ByteArray} (h : actB 2 nm L N un = true) : (0 ≤ N ∧ N ≤ 7) ∧ un = ⟨#[]⟩ := by
  rw [actB2] at h; simp only [inB, Bool.and_eq_true, decide_eq_true_eq] at h; exact ⟨⟨h.1.2.1, h.1.2.2⟩, empty_of_size h.2⟩
theorem act_open3 {nm : ByteArray} {L : List X11} {N : Int} {un : ByteArray} (h : actB 3 nm L N un = true) : namedX nm L = true ∧ (un = ⟨#[]⟩ ∨ un.size ≠ 0 ∧ un.size ≤ 12) := by
  rw [actB3] at h; simp only [Bool.and_eq_true, Bool.or_eq_true, decide_eq_true_eq] at h
  refine ⟨h.1.1, ?_⟩
  by_cases h0 : un.size = 0
  · exact .inl (empty_of_size h0)
  · exact .inr ⟨h0, h.2.elim (fun e => absurd e h0) nameP_size⟩
theorem act_open4 {nm : ByteArray} {L : List X11} {N : Int} {un : ByteArray} (h : actB 4 nm L N un = true) : namedX nm L = true ∧ (0 ≤ N ∧ N ≤ 100000) ∧ un = ⟨#[]⟩ := by
  rw [actB4] at h; simp only [inB, Bool.and_eq_true, decide_eq_true_eq] at h; exact ⟨h.1.1, ⟨h.1.2.1, h.1.2.2⟩, empty_of_size h.2⟩
theorem act_open5 {nm : ByteArray} {L : List X11} {N : Int} {un : ByteArray} (h : actB 5 nm L N un = true) : un = ⟨#[]⟩ := by
  rw [actB5] at h; simp only [Bool.and_eq_true, decide_eq_true_eq] at h; exact empty_of_size h.2
theorem act_open6 {nm : ByteArray} {L : List X11} {N : Int} {un : ByteArray} (h : actB 6 nm L N un = true) : un = ⟨#[]⟩ := by
  rw [actB6] at h; simp only [Bool.and_eq_true, decide_eq_true_eq] at h; exact empty_of_size h.2
theorem actB_kind {K : Int} {nm : ByteArray} {L : List X11} {N : Int} {un : ByteArray} (h : actB K nm L N un = true) : K = 1 ∨ K = 2 ∨ K = 3 ∨ K = 4 ∨ K = 5 ∨ K = 6 := by
  rcases k_cases K with e | e | e | e | e | e | ⟨_, _, _, _, _, _, h1, h2, h3, h4, h5, h6⟩
  · exact .inl e
  · exact .inr (.inl e)
  · exact .inr (.inr (.inl e))
  · exact .inr (.inr (.inr (.inl e)))
  · exact .inr (.inr (.inr (.inr (.inl e))))
  · exact .inr (.inr (.inr (.inr (.inr e))))
  · rw [actB_no nm L N un h1 h2 h3 h4 h5 h6] at h; cases h
theorem ret_strW {a b : ByteArray} (h : a = b) : Ending.returned (.string a) = .returned (.string b) := by rw [h]
theorem itoaI_any (n : Int) (w : World) (h : 0 ≤ n ∧ n ≤ 100000) (ht : Tab w) : Calls Tryz.prog 32 #[.int .i64 n] w fun e w' => e = .returned (.string (itoaB n)) ∧ Below w.heap.size w w' := by
  refine (Tryz.strconv_Itoa n (by omega) (by omega) w ht).mono ?_
  rintro e w1 ⟨rfl, k, os, rfl⟩
  exact ⟨rfl, Lib.below_grow w.heap.size w (Nat.le_refl _) k os⟩
theorem namedI_any (nm : ByteArray) (a : Option Addr) (cap : Nat) (L : List X11) (w : World) (hr : RdExpr w a L) (hs : ∀ x ∈ L, x.fits) (h : namedX nm L = true) (ht : Tab w) :
    Calls Tryz.prog 77 #[.string nm, .slice a L.length cap, .func (.func 78) #[] #[], .string ⟨#[44, 32]⟩] w fun e w' => e = .returned (.string (namedT nm L)) ∧ Below w.heap.size w w' := by
  obtain ⟨h1, h2, h3⟩ := namedX_open h
  exact namedTextX_any nm a cap L ⟨#[44, 32]⟩ ⟨(joinX L).toArray⟩ w (nameP_size h1) hr hs h2 ht (by rw [txsX_join]) (by have := joinX_size h2 h3; omega)

set_option maxRecDepth 100000 in
set_option maxHeartbeats 3200000 in
theorem implActText_1 (nm : ByteArray) (a : Option Addr) (cap : Nat) (L : List X11) (N : Int) (un : ByteArray) (w : World) (hkd : nm.size ≤ maxLen) (hr : RdExpr w a L) (hs : ∀ x ∈ L, x.fits) (hm : L.length ≤ 1048580) (hun : un.size ≤ maxLen) (ht : Tab w) (hw : Wrd w) (hv : actB 1 nm L N un = true) :
    Calls Tryz.prog 38 #[.agg #[.int .i64 1, .string nm, .slice a L.length cap, .int .i64 N, .string un]] w fun e w' => e = .returned (.string (actW 1 nm L N un)) ∧ Below w.heap.size w w' := by
  obtain ⟨hx, rfl, rfl⟩ := act_open1 hv
  have HCo := hide (fun W (h : RdExpr W a L) => implActOk_any 1 nm a cap L 0 ⟨#[]⟩ W hkd h hs hm hun)
  rw [hv] at HCo
  have b0 := below_al w (.cells #[.int .i64 1, .string nm, .slice a L.length cap, .int .i64 0, .string ⟨#[]⟩] 69)
  have hX := boxk_new w #[.int .i64 1, .string nm, .slice a L.length cap, .int .i64 0, .string ⟨#[]⟩] 69
  have HNm := hide (fun W (h : RdExpr W a L) (h2 : Tab W) => namedI_any nm a cap L W h hs hx h2)
  have hts := namedT_size hx
  have HT := hide (show namedT nm L = namedT nm L from rfl)
  have HTab := hide ht
  have HW := hide hw
  obtain ⟨out, hout⟩ : ∃ out, out = actW 1 nm L 0 ⟨#[]⟩ := ⟨_, rfl⟩
  rw [← hout]
  change out = ⟨#[97, 115, 115, 101, 114, 116, 32]⟩ ++ namedT nm L at hout
  clear HT
  generalize namedT nm L = t at HNm hts hout
  have HOut := hide hout
  clear hout hv ht hw hx
  go_enter Tryz.func38, Tryz.ntmps38
  go_wp2_with fail
  refine (HCo.out _ (hr.below b0)).mono ?_
  rintro e w1 ⟨rfl, hb⟩
  have HX := hide (box_step hX hb)
  have hB : Below w.heap.size w w1 := b0.trans (hb.mono b0.size)
  have HT1 := hide (HTab.out.later hB (Nat.le_refl _))
  have hwd := (HW.out.later hB)
  have HR1 := hide (hr.below hB)
  have wk := hwd.1
  clear hwd HW HTab
  clear hb b0 hX HCo hkd hs hun
  have x0 := boxk_cell HX.out 0 _ rfl
  have x1 := boxk_cell HX.out 1 _ rfl
  have x2 := boxk_cell HX.out 2 _ rfl
  have x3 := boxk_cell HX.out 3 _ rfl
  have x4 := boxk_cell HX.out 4 _ rfl
  have n0 : ¬ 9223372036854775807 < 1 + t.size := by omega
  have m0 : 1 + t.size ≤ 9223372036854775807 := by omega
  have n1 : ¬ 9223372036854775807 < 6 + (1 + t.size) := by omega
  have m1 : 6 + (1 + t.size) ≤ 9223372036854775807 := by omega
  go_wp2_with fail
  refine (HNm.out _ HR1.out HT1.out).mono ?_
  rintro e w2 ⟨rfl, hb2⟩
  have HX2 := hide (box_step HX.out hb2)
  have hB2 : Below w.heap.size w w2 := hB.trans (hb2.mono hB.size)
  clear hb2 x0 x1 x2 x3 x4 wk HX hB HNm
  have x4 := boxk_cell HX2.out 4 _ rfl
  go_wp2
  go_ret
  exact ⟨ret_strW (HOut.out.trans (by apply ByteArray.ext; simp [ByteArray.data_append])).symm, hB2⟩

set_option maxRecDepth 100000 in
set_option maxHeartbeats 3200000 in
theorem implActText_2 (nm : ByteArray) (a : Option Addr) (cap : Nat) (L : List X11) (N : Int) (un : ByteArray) (w : World) (hkd : nm.size ≤ maxLen) (hr : RdExpr w a L) (hs : ∀ x ∈ L, x.fits) (hm : L.length ≤ 1048580) (hun : un.size ≤ maxLen) (ht : Tab w) (hw : Wrd w) (hv : actB 2 nm L N un = true) :
    Calls Tryz.prog 38 #[.agg #[.int .i64 2, .string nm, .slice a L.length cap, .int .i64 N, .string un]] w fun e w' => e = .returned (.string (actW 2 nm L N un)) ∧ Below w.heap.size w w' := by
  obtain ⟨hN, rfl⟩ := act_open2 hv
  have HCo := hide (fun W (h : RdExpr W a L) => implActOk_any 2 nm a cap L N ⟨#[]⟩ W hkd h hs hm hun)
  rw [hv] at HCo
  have b0 := below_al w (.cells #[.int .i64 2, .string nm, .slice a L.length cap, .int .i64 N, .string ⟨#[]⟩] 69)
  have hX := boxk_new w #[.int .i64 2, .string nm, .slice a L.length cap, .int .i64 N, .string ⟨#[]⟩] 69
  have HNu := hide (fun W (h2 : Tab W) => itoaI_any N W (by omega) h2)
  have hss := itoaB_size (n := N) (by omega)
  have HTab := hide ht
  have HW := hide hw
  obtain ⟨out, hout⟩ : ∃ out, out = actW 2 nm L N ⟨#[]⟩ := ⟨_, rfl⟩
  rw [← hout]
  change out = ⟨#[100, 114, 111, 112, 32]⟩ ++ itoaB N at hout
  generalize itoaB N = s at HNu hss hout
  have HOut := hide hout
  clear hout hv ht hw hN
  go_enter Tryz.func38, Tryz.ntmps38
  go_wp2_with fail
  refine (HCo.out _ (hr.below b0)).mono ?_
  rintro e w1 ⟨rfl, hb⟩
  have HX := hide (box_step hX hb)
  have hB : Below w.heap.size w w1 := b0.trans (hb.mono b0.size)
  have HT1 := hide (HTab.out.later hB (Nat.le_refl _))
  have hwd := (HW.out.later hB)
  have HR1 := hide (hr.below hB)
  have wk := hwd.2.1
  clear hwd HW HTab
  clear hb b0 hX HCo hkd hs hun
  have x0 := boxk_cell HX.out 0 _ rfl
  have x1 := boxk_cell HX.out 1 _ rfl
  have x2 := boxk_cell HX.out 2 _ rfl
  have x3 := boxk_cell HX.out 3 _ rfl
  have x4 := boxk_cell HX.out 4 _ rfl
  have n0 : ¬ 9223372036854775807 < 1 + s.size := by omega
  have m0 : 1 + s.size ≤ 9223372036854775807 := by omega
  have n1 : ¬ 9223372036854775807 < 4 + (1 + s.size) := by omega
  have m1 : 4 + (1 + s.size) ≤ 9223372036854775807 := by omega
  go_wp2_with fail
  refine (HNu.out _ HT1.out).mono ?_
  rintro e w2 ⟨rfl, hb2⟩
  have HX2 := hide (box_step HX.out hb2)
  have HR2 := hide (HR1.out.below hb2)
  have HT2 := hide (HT1.out.later hb2 (Nat.le_refl _))
  have hB2 : Below w.heap.size w w2 := hB.trans (hb2.mono hB.size)
  clear hb2 x0 x1 x2 x3 x4 wk HX hB HR1 HT1 HNu
  have x1 := boxk_cell HX2.out 1 _ rfl
  have x2 := boxk_cell HX2.out 2 _ rfl
  have x4 := boxk_cell HX2.out 4 _ rfl
  go_wp2
  go_ret
  exact ⟨ret_strW (HOut.out.trans (by apply ByteArray.ext; simp [ByteArray.data_append])).symm, hB2⟩

set_option maxRecDepth 100000 in
set_option maxHeartbeats 3200000 in
theorem implActText_3 (nm : ByteArray) (a : Option Addr) (cap : Nat) (L : List X11) (N : Int) (un : ByteArray) (w : World) (hkd : nm.size ≤ maxLen) (hr : RdExpr w a L) (hs : ∀ x ∈ L, x.fits) (hm : L.length ≤ 1048580) (hun : un.size ≤ maxLen) (ht : Tab w) (hw : Wrd w) (hv : actB 3 nm L N un = true) :
    Calls Tryz.prog 38 #[.agg #[.int .i64 3, .string nm, .slice a L.length cap, .int .i64 N, .string un]] w fun e w' => e = .returned (.string (actW 3 nm L N un)) ∧ Below w.heap.size w w' := by
  obtain ⟨hx, hu⟩ := act_open3 hv
  have HCo := hide (fun W (h : RdExpr W a L) => implActOk_any 3 nm a cap L N un W hkd h hs hm hun)
  rw [hv] at HCo
  have b0 := below_al w (.cells #[.int .i64 3, .string nm, .slice a L.length cap, .int .i64 N, .string un] 69)
  have hX := boxk_new w #[.int .i64 3, .string nm, .slice a L.length cap, .int .i64 N, .string un] 69
  have HNm := hide (fun W (h : RdExpr W a L) (h2 : Tab W) => namedI_any nm a cap L W h hs hx h2)
  have hts := namedT_size hx
  have HT := hide (show namedT nm L = namedT nm L from rfl)
  have HTab := hide ht
  have HW := hide hw
  obtain ⟨out, hout⟩ : ∃ out, out = actW 3 nm L N un := ⟨_, rfl⟩
  rw [← hout]
  unfold actW at hout
  rw [if_neg (by decide), if_neg (by decide), if_pos rfl] at hout
  clear HT
  generalize namedT nm L = t at HNm hts hout
  have HOut := hide hout
  clear hout hv ht hw hx
  go_enter Tryz.func38, Tryz.ntmps38
  go_wp2_with fail
  refine (HCo.out _ (hr.below b0)).mono ?_
  rintro e w1 ⟨rfl, hb⟩
  have HX := hide (box_step hX hb)
  have hB : Below w.heap.size w w1 := b0.trans (hb.mono b0.size)
  have HT1 := hide (HTab.out.later hB (Nat.le_refl _))
  have hwd := (HW.out.later hB)
  have HR1 := hide (hr.below hB)
  have wk := hwd.2.2.1
  clear hwd HW HTab
  clear hb b0 hX HCo hkd hs hun
  have x0 := boxk_cell HX.out 0 _ rfl
  have x1 := boxk_cell HX.out 1 _ rfl
  have x2 := boxk_cell HX.out 2 _ rfl
  have x3 := boxk_cell HX.out 3 _ rfl
  have x4 := boxk_cell HX.out 4 _ rfl
  have n0 : ¬ 9223372036854775807 < 1 + t.size := by omega
  have m0 : 1 + t.size ≤ 9223372036854775807 := by omega
  have n1 : ¬ 9223372036854775807 < 4 + (1 + t.size) := by omega
  have m1 : 4 + (1 + t.size) ≤ 9223372036854775807 := by omega
  go_wp2_with fail
  refine (HNm.out _ HR1.out HT1.out).mono ?_
  rintro e w2 ⟨rfl, hb2⟩
  have HX2 := hide (box_step HX.out hb2)
  have hB2 : Below w.heap.size w w2 := hB.trans (hb2.mono hB.size)
  clear hb2 x0 x1 x2 x3 x4 wk HX hB HNm
  have x4 := boxk_cell HX2.out 4 _ rfl
  rcases hu with rfl | ⟨hu0, hu1⟩
  · rw [if_pos (by rfl)] at HOut
    go_wp2
    go_ret
    exact ⟨ret_strW (HOut.out.trans (by apply ByteArray.ext; simp [ByteArray.data_append])).symm, hB2⟩
  · rw [if_neg hu0] at HOut
    have k0 := isEmpty_false hu0
    clear hu0
    have n0 : ¬ 9223372036854775807 < 1 + t.size := by omega
    have m0 : 1 + t.size ≤ 9223372036854775807 := by omega
    have n1 : ¬ 9223372036854775807 < 4 + (1 + t.size) := by omega
    have m1 : 4 + (1 + t.size) ≤ 9223372036854775807 := by omega
    have n2 : ¬ 9223372036854775807 < 6 + un.size := by omega
    have m2 : 6 + un.size ≤ 9223372036854775807 := by omega
    have n3 : ¬ 9223372036854775807 < 4 + (1 + t.size) + (6 + un.size) := by omega
    have m3 : 4 + (1 + t.size) + (6 + un.size) ≤ 9223372036854775807 := by omega
    go_wp2
    go_ret
    exact ⟨ret_strW (HOut.out.trans (by apply ByteArray.ext; simp [ByteArray.data_append])).symm, hB2⟩

set_option maxRecDepth 100000 in
set_option maxHeartbeats 3200000 in
theorem implActText_4 (nm : ByteArray) (a : Option Addr) (cap : Nat) (L : List X11) (N : Int) (un : ByteArray) (w : World) (hkd : nm.size ≤ maxLen) (hr : RdExpr w a L) (hs : ∀ x ∈ L, x.fits) (hm : L.length ≤ 1048580) (hun : un.size ≤ maxLen) (ht : Tab w) (hw : Wrd w) (hv : actB 4 nm L N un = true) :
    Calls Tryz.prog 38 #[.agg #[.int .i64 4, .string nm, .slice a L.length cap, .int .i64 N, .string un]] w fun e w' => e = .returned (.string (actW 4 nm L N un)) ∧ Below w.heap.size w w' := by
  obtain ⟨hx, hN, rfl⟩ := act_open4 hv
  have HCo := hide (fun W (h : RdExpr W a L) => implActOk_any 4 nm a cap L N ⟨#[]⟩ W hkd h hs hm hun)
  rw [hv] at HCo
  have b0 := below_al w (.cells #[.int .i64 4, .string nm, .slice a L.length cap, .int .i64 N, .string ⟨#[]⟩] 69)
  have hX := boxk_new w #[.int .i64 4, .string nm, .slice a L.length cap, .int .i64 N, .string ⟨#[]⟩] 69
  have HNm := hide (fun W (h : RdExpr W a L) (h2 : Tab W) => namedI_any nm a cap L W h hs hx h2)
  have hts := namedT_size hx
  have HT := hide (show namedT nm L = namedT nm L from rfl)
  have HNu := hide (fun W (h2 : Tab W) => itoaI_any N W (by omega) h2)
  have hss := itoaB_size (n := N) (by omega)
  have HTab := hide ht
  have HW := hide hw
  obtain ⟨out, hout⟩ : ∃ out, out = actW 4 nm L N ⟨#[]⟩ := ⟨_, rfl⟩
  rw [← hout]
  change out = ⟨#[116, 105, 109, 101, 114, 32]⟩ ++ itoaB N ++ ⟨#[32]⟩ ++ namedT nm L at hout
  clear HT
  generalize namedT nm L = t at HNm hts hout
  generalize itoaB N = s at HNu hss hout
  have HOut := hide hout
  clear hout hv ht hw hx hN
  go_enter Tryz.func38, Tryz.ntmps38
  go_wp2_with fail
  refine (HCo.out _ (hr.below b0)).mono ?_
  rintro e w1 ⟨rfl, hb⟩
  have HX := hide (box_step hX hb)
  have hB : Below w.heap.size w w1 := b0.trans (hb.mono b0.size)
  have HT1 := hide (HTab.out.later hB (Nat.le_refl _))
  have hwd := (HW.out.later hB)
  have HR1 := hide (hr.below hB)
  have wk := hwd.2.2.2.1
  clear hwd HW HTab
  clear hb b0 hX HCo hkd hs hun
  have x0 := boxk_cell HX.out 0 _ rfl
  have x1 := boxk_cell HX.out 1 _ rfl
  have x2 := boxk_cell HX.out 2 _ rfl
  have x3 := boxk_cell HX.out 3 _ rfl
  have x4 := boxk_cell HX.out 4 _ rfl
  have n0 : ¬ 9223372036854775807 < 1 + s.size := by omega
  have m0 : 1 + s.size ≤ 9223372036854775807 := by omega
  have n1 : ¬ 9223372036854775807 < 5 + (1 + s.size) := by omega
  have m1 : 5 + (1 + s.size) ≤ 9223372036854775807 := by omega
  go_wp2_with fail
  refine (HNu.out _ HT1.out).mono ?_
  rintro e w2 ⟨rfl, hb2⟩
  have HX2 := hide (box_step HX.out hb2)
  have HR2 := hide (HR1.out.below hb2)
  have HT2 := hide (HT1.out.later hb2 (Nat.le_refl _))
  have hB2 : Below w.heap.size w w2 := hB.trans (hb2.mono hB.size)
  clear hb2 x0 x1 x2 x3 x4 wk HX hB HR1 HT1 HNu
  have x1 := boxk_cell HX2.out 1 _ rfl
  have x2 := boxk_cell HX2.out 2 _ rfl
  have x4 := boxk_cell HX2.out 4 _ rfl
  go_wp2_with fail
  refine (HNm.out _ HR2.out HT2.out).mono ?_
  rintro e w3 ⟨rfl, hb3⟩
  have x4 := boxk_cell (box_step HX2.out hb3) 4 _ rfl
  have hB3 : Below w.heap.size w w3 := hB2.trans (hb3.mono hB2.size)
  clear hb3 HX2 hB2 HNm n0 n1 m0 m1
  have n0 : ¬ 9223372036854775807 < 1 + s.size := by omega
  have m0 : 1 + s.size ≤ 9223372036854775807 := by omega
  have n1 : ¬ 9223372036854775807 < 5 + (1 + s.size) := by omega
  have m1 : 5 + (1 + s.size) ≤ 9223372036854775807 := by omega
  have n2 : ¬ 9223372036854775807 < 1 + t.size := by omega
  have m2 : 1 + t.size ≤ 9223372036854775807 := by omega
  have n3 : ¬ 9223372036854775807 < 5 + (1 + s.size) + (1 + t.size) := by omega
  have m3 : 5 + (1 + s.size) + (1 + t.size) ≤ 9223372036854775807 := by omega
  go_wp2
  go_ret
  exact ⟨ret_strW (HOut.out.trans (by apply ByteArray.ext; simp [ByteArray.data_append])).symm, hB3⟩

set_option maxRecDepth 100000 in
set_option maxHeartbeats 3200000 in
theorem implActText_5 (nm : ByteArray) (a : Option Addr) (cap : Nat) (L : List X11) (N : Int) (un : ByteArray) (w : World) (hkd : nm.size ≤ maxLen) (hr : RdExpr w a L) (hs : ∀ x ∈ L, x.fits) (hm : L.length ≤ 1048580) (hun : un.size ≤ maxLen) (ht : Tab w) (hw : Wrd w) (hv : actB 5 nm L N un = true) :
    Calls Tryz.prog 38 #[.agg #[.int .i64 5, .string nm, .slice a L.length cap, .int .i64 N, .string un]] w fun e w' => e = .returned (.string (actW 5 nm L N un)) ∧ Below w.heap.size w w' := by
  obtain rfl := act_open5 hv
  have HCo := hide (fun W (h : RdExpr W a L) => implActOk_any 5 nm a cap L N ⟨#[]⟩ W hkd h hs hm hun)
  rw [hv] at HCo
  have b0 := below_al w (.cells #[.int .i64 5, .string nm, .slice a L.length cap, .int .i64 N, .string ⟨#[]⟩] 69)
  have hX := boxk_new w #[.int .i64 5, .string nm, .slice a L.length cap, .int .i64 N, .string ⟨#[]⟩] 69
  have HTab := hide ht
  have HW := hide hw
  obtain ⟨out, hout⟩ : ∃ out, out = actW 5 nm L N ⟨#[]⟩ := ⟨_, rfl⟩
  rw [← hout]
  change out = ⟨#[100, 111, 110, 101]⟩ at hout
  have HOut := hide hout
  clear hout hv ht hw
  go_enter Tryz.func38, Tryz.ntmps38
  go_wp2_with fail
  refine (HCo.out _ (hr.below b0)).mono ?_
  rintro e w1 ⟨rfl, hb⟩
  have HX := hide (box_step hX hb)
  have hB : Below w.heap.size w w1 := b0.trans (hb.mono b0.size)
  have HT1 := hide (HTab.out.later hB (Nat.le_refl _))
  have hwd := (HW.out.later hB)
  have HR1 := hide (hr.below hB)
  have wk := hwd.2.2.2.2.1
  clear hwd HW HTab
  clear hb b0 hX HCo hkd hs hun
  have x0 := boxk_cell HX.out 0 _ rfl
  have x1 := boxk_cell HX.out 1 _ rfl
  have x2 := boxk_cell HX.out 2 _ rfl
  have x3 := boxk_cell HX.out 3 _ rfl
  have x4 := boxk_cell HX.out 4 _ rfl
  go_wp2
  go_ret
  exact ⟨ret_strW HOut.out.symm, hB⟩

set_option maxRecDepth 100000 in
set_option maxHeartbeats 3200000 in
theorem implActText_6 (nm : ByteArray) (a : Option Addr) (cap : Nat) (L : List X11) (N : Int) (un : ByteArray) (w : World) (hkd : nm.size ≤ maxLen) (hr : RdExpr w a L) (hs : ∀ x ∈ L, x.fits) (hm : L.length ≤ 1048580) (hun : un.size ≤ maxLen) (ht : Tab w) (hw : Wrd w) (hv : actB 6 nm L N un = true) :
    Calls Tryz.prog 38 #[.agg #[.int .i64 6, .string nm, .slice a L.length cap, .int .i64 N, .string un]] w fun e w' => e = .returned (.string (actW 6 nm L N un)) ∧ Below w.heap.size w w' := by
  obtain rfl := act_open6 hv
  have HCo := hide (fun W (h : RdExpr W a L) => implActOk_any 6 nm a cap L N ⟨#[]⟩ W hkd h hs hm hun)
  rw [hv] at HCo
  have b0 := below_al w (.cells #[.int .i64 6, .string nm, .slice a L.length cap, .int .i64 N, .string ⟨#[]⟩] 69)
  have hX := boxk_new w #[.int .i64 6, .string nm, .slice a L.length cap, .int .i64 N, .string ⟨#[]⟩] 69
  have HTab := hide ht
  have HW := hide hw
  obtain ⟨out, hout⟩ : ∃ out, out = actW 6 nm L N ⟨#[]⟩ := ⟨_, rfl⟩
  rw [← hout]
  change out = ⟨#[102, 97, 105, 108]⟩ at hout
  have HOut := hide hout
  clear hout hv ht hw
  go_enter Tryz.func38, Tryz.ntmps38
  go_wp2_with fail
  refine (HCo.out _ (hr.below b0)).mono ?_
  rintro e w1 ⟨rfl, hb⟩
  have HX := hide (box_step hX hb)
  have hB : Below w.heap.size w w1 := b0.trans (hb.mono b0.size)
  have HT1 := hide (HTab.out.later hB (Nat.le_refl _))
  have hwd := (HW.out.later hB)
  have HR1 := hide (hr.below hB)
  have wk := hwd.2.2.2.2.2
  clear hwd HW HTab
  clear hb b0 hX HCo hkd hs hun
  have x0 := boxk_cell HX.out 0 _ rfl
  have x1 := boxk_cell HX.out 1 _ rfl
  have x2 := boxk_cell HX.out 2 _ rfl
  have x3 := boxk_cell HX.out 3 _ rfl
  have x4 := boxk_cell HX.out 4 _ rfl
  go_wp2
  go_ret
  exact ⟨ret_strW HOut.out.symm, hB⟩

set_option maxRecDepth 100000 in
set_option maxHeartbeats 3200000 in
theorem implActText_any (K : Int) (nm : ByteArray) (a : Option Addr) (cap : Nat) (L : List X11) (N : Int) (un : ByteArray) (w : World) (hkd : nm.size ≤ maxLen) (hr : RdExpr w a L) (hs : ∀ x ∈ L, x.fits) (hm : L.length ≤ 1048580) (hun : un.size ≤ maxLen) (ht : Tab w) (hw : Wrd w) :
    Calls Tryz.prog 38 #[.agg #[.int .i64 K, .string nm, .slice a L.length cap, .int .i64 N, .string un]] w fun e w' => e = .returned (.string (actT K nm L N un)) ∧ Below w.heap.size w w' := by
  cases hv : actB K nm L N un
  · rw [actT_no hv]
    have HCo := hide (fun W (h : RdExpr W a L) => implActOk_any K nm a cap L N un W hkd h hs hm hun)
    rw [hv] at HCo
    have b0 := below_al w (.cells #[.int .i64 K, .string nm, .slice a L.length cap, .int .i64 N, .string un] 69)
    go_enter Tryz.func38, Tryz.ntmps38
    go_wp2_with fail
    refine (HCo.out _ (hr.below b0)).mono ?_
    rintro e w1 ⟨rfl, hb⟩
    have hB : Below w.heap.size w w1 := b0.trans (hb.mono b0.size)
    go_wp2
    go_ret
    exact ⟨rfl, hB⟩
  · rw [actT_yes hv]
    rcases actB_kind hv with rfl | rfl | rfl | rfl | rfl | rfl
    · exact implActText_1 nm a cap L N un w hkd hr hs hm hun ht hw hv
    · exact implActText_2 nm a cap L N un w hkd hr hs hm hun ht hw hv
    · exact implActText_3 nm a cap L N un w hkd hr hs hm hun ht hw hv
    · exact implActText_4 nm a cap L N un w hkd hr hs hm hun ht hw hv
    · exact implActText_5 nm a cap L N un w hkd hr hs hm hun ht hw hv
    · exact implActText_6 nm a cap L N un w hkd hr hs hm hun ht hw hv
end Go.Proofs.YtcfhpcbkdpgboaaGreatDoor
/-
  A rule's text, plainly: ruleT; how long it and its parts are.
-/
namespace Go.Proofs.YtcfhpcbkdpgboaaGreatDoor
open Go.RowKit
set_option linter.unusedVariables false

/-- texts with a comma and a blank between -/
def joinT (ts : List ByteArray) : ByteArray := ⟨(Lib.join (ts.map (·.data.toList)) (ByteArray.mk #[44, 32]).data.toList).toArray⟩
theorem joinT_nil : joinT [] = ⟨#[]⟩ := rfl
theorem join_snocL (L : List (List UInt8)) (v : List UInt8) : Lib.join (L ++ [v]) [44, 32] = if L = [] then v else Lib.join L [44, 32] ++ (44 :: 32 :: v) := by
  unfold Lib.join
  induction L with
  | nil => simp [List.intercalate]
  | cons a r ih =>
    rw [if_neg (by simp)]
    cases r with
    | nil => simp [List.intercalate]
    | cons b s =>
      rw [if_neg (by simp)] at ih
      simp only [List.cons_append] at ih ⊢
      have e : ∀ (p q : List UInt8) (t : List (List UInt8)), List.intercalate [44, 32] (p :: q :: t) = p ++ (44 :: 32 :: List.intercalate [44, 32] (q :: t)) := fun p q t => by simp [List.intercalate, List.intersperse]
      rw [e, e, ih]
      simp
theorem joinT_snoc (ts : List ByteArray) (t : ByteArray) : joinT (ts ++ [t]) = if ts = [] then t else joinT ts ++ ⟨#[44, 32]⟩ ++ t := by
  unfold joinT
  rw [List.map_append, show ([t].map fun x : ByteArray => x.data.toList) = [t.data.toList] from rfl, show (ByteArray.mk #[44, 32]).data.toList = [44, 32] from rfl, join_snocL]
  by_cases e : ts = []
  · rw [if_pos e, if_pos (by rw [e]; rfl)]
  · rw [if_neg e, if_neg (by simpa using e)]
    apply ByteArray.ext
    rw [ByteArray.data_append, ByteArray.data_append]
    apply Array.toList_inj.1
    simp
theorem joinT_size {M : Nat} : ∀ (ts : List ByteArray), (∀ t ∈ ts, t.size ≤ M) → (joinT ts).size ≤ (M + 2) * ts.length := by
  have key : ∀ n (ts : List ByteArray), ts.length = n → (∀ t ∈ ts, t.size ≤ M) → (joinT ts).size ≤ (M + 2) * n := by
    intro n
    induction n with
    | zero => intro ts h _; rw [List.eq_nil_of_length_eq_zero h, joinT_nil]; exact Nat.zero_le _
    | succ n ih =>
      intro ts h hM
      rcases List.eq_nil_or_concat ts with rfl | ⟨r, x, hsx⟩
      · simp at h
      rw [List.concat_eq_append] at hsx
      subst hsx
      have h1 := ih r (by simpa using h) (fun t ht => hM t (by simp [ht]))
      have h2 := hM x (by simp)
      rw [joinT_snoc]
      have c : (ByteArray.mk #[44, 32]).size = 2 := rfl
      split
      · rw [Nat.mul_add]; omega
      · rw [ByteArray.size_append, ByteArray.size_append, c, Nat.mul_add]; omega
  exact fun ts h => key _ ts rfl h
def PE.txt (p : PE) : ByteArray := patT p.kd p.L p.nt
def C11.txt (c : C11) : ByteArray := condT c.Op c.L c.R
def QE.txt (a : QE) : ByteArray := actT a.K a.nm a.L a.N a.un
theorem patT_size (p : PE) : p.txt.size ≤ 400 := by
  unfold PE.txt
  cases h : patB p.kd p.L
  · rw [patT_no h]; exact Nat.zero_le _
  · rw [patT_yes h]
    obtain ⟨h1, h2, h3⟩ := patB_open h
    have a1 := nameP_size h1
    have a2 := joinA_le h3
    have a3 : (⟨(joinA p.L).toArray⟩ : ByteArray).size = (joinA p.L).length := by simp [ByteArray.size]
    have c40 : (ByteArray.mk #[40]).size = 1 := rfl
    have c41 : (ByteArray.mk #[41]).size = 1 := rfl
    have c33 : (ByteArray.mk #[33]).size = 1 := rfl
    unfold notT
    split <;> simp only [ByteArray.size_append, a3, c40, c41, c33] <;> omega
theorem condT_size (c : C11) : c.txt.size ≤ 400 := by
  unfold C11.txt
  cases h : condB c.Op c.L c.R
  · rw [condT_no h]; exact Nat.zero_le _
  · rw [condT_yes h]
    obtain ⟨-, h2, h3⟩ := condB_open h
    have a1 := txA_size h2
    have a2 := txA_size h3
    have a3 := signT_size c.Op
    have c32 : (ByteArray.mk #[32]).size = 1 := rfl
    simp only [ByteArray.size_append, c32]
    omega
theorem actT_size (a : QE) : a.txt.size ≤ 400 := by
  unfold QE.txt
  cases h : actB a.K a.nm a.L a.N a.un
  · rw [actT_no h]; exact Nat.zero_le _
  · rw [actT_yes h]
    obtain ⟨K, nm, aa, ac, L, N, un⟩ := a
    simp only at h ⊢
    rcases actB_kind h with rfl | rfl | rfl | rfl | rfl | rfl
    · obtain ⟨h1, -, -⟩ := act_open1 h
      have := namedT_size h1
      have e : actW 1 nm L N un = ⟨#[97, 115, 115, 101, 114, 116, 32]⟩ ++ namedT nm L := rfl
      have c : (ByteArray.mk #[97, 115, 115, 101, 114, 116, 32]).size = 7 := rfl
      rw [e, ByteArray.size_append, c]; omega
    · obtain ⟨h1, -⟩ := act_open2 h
      have := itoaB_size (n := N) (by omega)
      have e : actW 2 nm L N un = ⟨#[100, 114, 111, 112, 32]⟩ ++ itoaB N := rfl
      have c : (ByteArray.mk #[100, 114, 111, 112, 32]).size = 5 := rfl
      rw [e, ByteArray.size_append, c]; omega
    · obtain ⟨h1, h2⟩ := act_open3 h
      have := namedT_size h1
      have e : actW 3 nm L N un = if un.size = 0 then ⟨#[116, 97, 115, 107, 32]⟩ ++ namedT nm L else ⟨#[116, 97, 115, 107, 32]⟩ ++ namedT nm L ++ ⟨#[32, 117, 110, 100, 111, 32]⟩ ++ un := rfl
      have c : (ByteArray.mk #[116, 97, 115, 107, 32]).size = 5 := rfl
      have d : (ByteArray.mk #[32, 117, 110, 100, 111, 32]).size = 6 := rfl
      rw [e]
      split
      · rw [ByteArray.size_append, c]; omega
      · rename_i hne
        rcases h2 with h2 | h2
        · rw [h2] at hne; exact absurd rfl hne
        · simp only [ByteArray.size_append, c, d]; omega
    · obtain ⟨h1, h2, -⟩ := act_open4 h
      have := namedT_size h1
      have := itoaB_size (n := N) (by omega)
      have e : actW 4 nm L N un = ⟨#[116, 105, 109, 101, 114, 32]⟩ ++ itoaB N ++ ⟨#[32]⟩ ++ namedT nm L := rfl
      have c : (ByteArray.mk #[116, 105, 109, 101, 114, 32]).size = 6 := rfl
      have d : (ByteArray.mk #[32]).size = 1 := rfl
      rw [e]; simp only [ByteArray.size_append, c, d]; omega
    · have e : actW 5 nm L N un = ⟨#[100, 111, 110, 101]⟩ := rfl
      have c : (ByteArray.mk #[100, 111, 110, 101]).size = 4 := rfl
      rw [e, c]; omega
    · have e : actW 6 nm L N un = ⟨#[102, 97, 105, 108]⟩ := rfl
      have c : (ByteArray.mk #[102, 97, 105, 108]).size = 4 := rfl
      rw [e, c]; omega
/-- what stands ahead of a rule's patterns -/
def headT (nm : ByteArray) (sal : Int) : ByteArray := ⟨#[114, 117, 108, 101, 32]⟩ ++ nm ++ ⟨#[32]⟩ ++ itoaB sal ++ ⟨#[58, 32]⟩
def ruleW (x : RE) : ByteArray :=
  headT x.nm x.sal ++ joinT (x.P.map PE.txt) ++ (if x.C = [] then ⟨#[]⟩ else ⟨#[32, 43, 32]⟩ ++ joinT (x.C.map C11.txt)) ++ ⟨#[32, 45, 62, 32]⟩ ++ joinT (x.A.map QE.txt) ++ ⟨#[46, 10]⟩
def ruleT (x : RE) : ByteArray := if ruleB x = true then ruleW x else ⟨#[]⟩
theorem ruleT_no {x : RE} (h : ruleB x = false) : ruleT x = ⟨#[]⟩ := by unfold ruleT; rw [if_neg (by rw [h]; simp)]
theorem ruleT_yes {x : RE} (h : ruleB x = true) : ruleT x = ruleW x := by unfold ruleT; rw [if_pos h]
theorem ptxt_pl {K J : List PE} (h : K.map PE.pl = J.map PE.pl) : K.map PE.txt = J.map PE.txt := by
  have e : ∀ L : List PE, L.map PE.txt = (L.map PE.pl).map (fun p => patT p.kd p.L p.nt) := fun L => by rw [List.map_map]; rfl
  rw [e, e, h]
theorem atxt_pl {K J : List QE} (h : K.map QE.pl = J.map QE.pl) : K.map QE.txt = J.map QE.txt := by
  have e : ∀ L : List QE, L.map QE.txt = (L.map QE.pl).map (fun a => actT a.K a.nm a.L a.N a.un) := fun L => by rw [List.map_map]; rfl
  rw [e, e, h]
theorem ruleT_pl {x y : RE} (h : y.pl = x.pl) : ruleT y = ruleT x := by
  obtain ⟨e1, e2, e3, e4, e5⟩ := RE.pl_inj h
  unfold ruleT ruleW
  rw [ruleB_pl h, e1, e2, ptxt_pl e3, e4, atxt_pl e5]
/-- what a rule that is right has -/
theorem rule_open {x : RE} (h : ruleB x = true) : x.nm.size ≤ 12 ∧ (-100 ≤ x.sal ∧ x.sal ≤ 100) ∧ (1 ≤ x.P.length ∧ x.P.length ≤ 6) ∧ x.C.length ≤ 6 ∧ (1 ≤ x.A.length ∧ x.A.length ≤ 6) := by
  unfold ruleB patsB at h
  simp only [Bool.and_eq_true, decide_eq_true_eq, inB_iff] at h
  obtain ⟨⟨⟨⟨h1, h2⟩, h3⟩, h4⟩, h5⟩ := h
  exact ⟨nameP_size h1, h2, by omega, h4.2, by omega⟩
end Go.Proofs.YtcfhpcbkdpgboaaGreatDoor
