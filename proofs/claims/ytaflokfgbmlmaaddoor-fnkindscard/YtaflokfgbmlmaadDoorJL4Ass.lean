/-
  The model's l4Assert: a fact asserted in a store that is written into.
-/
import Derived.Test.YtaflokfgbmlmaadDoorJAssP
import Derived.Test.YtaflokfgbmlmaadDoorJoined2
namespace Go.Proofs.YtaflokfgbmlmaadDoor
open Go.RowKit
set_option linter.unusedVariables false

theorem ownsRow_up {w : World} {base base' n size g cap : Nat} {T : TypeId} {xs : List Value} (h : w.ownsRow base T size (.slice (some ⟨g, 0, none⟩) n cap) n xs) (hb : base' ≤ g) : w.ownsRow base' T size (.slice (some ⟨g, 0, none⟩) n cap) n xs := by
  refine ⟨h.1, ?_⟩
  rcases h.2 with h2 | ⟨g', cap', cur, e, hb', rest⟩
  · exact absurd h2 (by simp)
  · have e2 := e
    simp only [Value.slice.injEq, Option.some.injEq, Addr.mk.injEq] at e2
    exact .inr ⟨g', cap', cur, e, by rw [← e2.1.1]; exact hb, rest⟩
/-- a store's items, in a block of the call's own or none at all -/
def HV (w : World) (lo n : Nat) (va : Option Addr) (vc : Nat) (K : List It) : Prop := (n = 0 ∧ K = [] ∧ va = none ∧ vc = 0) ∨ ∃ g, va = some ⟨g, 0, none⟩ ∧ HoldsI w lo g vc K
theorem HV.later {w w' : World} {lo n vc : Nat} {va : Option Addr} {K : List It} (h : HV w lo n va vc K) (hb : Below w.heap.size w w') : HV w' lo n va vc K :=
  h.imp id (fun ⟨g, e, o⟩ => ⟨g, e, o.later hb⟩)
theorem gi {w : World} {lo n vc p : Nat} {va : Option Addr} {K : List It} {cs : Array Value} (hv : HV w lo n va vc K) (hK : K.length = n) (hp : w.heap[p]? = some (.cells cs 29 (0, 0))) :
    ∃ g, g < w.heap.size ∧ (∀ x, Copied w lo g (K ++ [x]) K n) ∧ (∀ q, (Value.slice va n vc).ownBlock = some q → q = g ∧ lo ≤ q ∧ q ≠ p) ∧ w.ownsRow 0 54 3 (.slice va n vc) n (rowOf It.cells K) ∧ RdI w va K ∧ (g = p ∨ ∃ cur, w.heap[g]? = some (.cells cur 54 (0, 0))) := by
  rcases hv with ⟨rfl, rfl, rfl, rfl⟩ | ⟨g, rfl, o⟩
  · exact ⟨p, (Array.getElem?_eq_some_iff.1 hp).1, fun x => Copied.zero _ _ _ _ _, fun q e => (by cases e), World.ownsRow_nil _ _ _ _, RdI.nil _ _, .inl rfl⟩
  · subst hK
    refine ⟨g, o.lt, fun x => o.copied x, fun q e => by cases e; exact ⟨rfl, o.low, fun e => row_ne_box o.own hp (by decide) e.symm⟩, o.own, o.rd, .inr ?_⟩
    rcases o.own.2 with h2 | ⟨g', cap', cur, e, hb, hg, rest⟩
    · exact absurd h2 (by simp)
    · simp only [Value.slice.injEq, Option.some.injEq, Addr.mk.injEq] at e
      exact ⟨cur, by rw [e.1.1]; exact hg⟩
theorem sA {W : World} {p f : Nat} {v0 : Value} {nx : Int} {kd : ByteArray} {v1 : Value} (hp : W.heap[p]? = some (.cells #[v0, .int .i64 nx] 29 (0, 0))) (hf : W.heap[f]? = some (.cells #[.string kd, v1] 41 (0, 0))) :
    W.cell? ⟨p, 1, none⟩ = some (.int .i64 nx) ∧ W.cell? ⟨f, 0, none⟩ = some (.string kd) ∧ W.cell? ⟨f, 1, none⟩ = some v1 := ⟨(box2_cell hp).2.1, (box2_cell hf).1, (box2_cell hf).2.1⟩
/-- asserting, plainly: the Id, Next, the items -/
def assP (K : List P4) (nx : Int) (kd : ByteArray) (M : List V3) : Int × Int × List P4 := if 0 < idP K kd M then (idP K kd M, nx, K) else if 40 ≤ K.length ∨ 1000000 ≤ nx then (0, nx, K) else (nx, nx + 1, K ++ [⟨nx, kd, M⟩])

set_option maxRecDepth 100000 in
set_option maxHeartbeats 12800000 in
theorem l4Assert_any (p lo n vc cb : Nat) (va b : Option Addr) (nx : Int) (kd : ByteArray) (K : List It) (M : List V3) (w : World) (hp : w.heap[p]? = some (.cells #[.slice va n vc, .int .i64 nx] 29 (0, 0))) (hv : HV w lo n va vc K) (hKn : K.length = n) (hn : n ≤ 1048576) (hl : ∀ i, i < K.length → (iAt K i).L.length ≤ 1048580) (hq : RdV w b M) (hm : M.length ≤ 1048580) (hlop : lo ≤ p) (hlo : lo ≤ w.heap.size) (hnx : 0 ≤ nx) :
    Calls Tryd.prog 38 #[.pointer (some ⟨p, 0, none⟩), .agg #[.string kd, .slice b M.length cb]] w fun e w' =>
      e = .returned (.int .i64 (assP (K.map It.pl) nx kd M).1) ∧ ∃ va' vc' K', w'.heap[p]? = some (.cells #[.slice va' K'.length vc', .int .i64 (assP (K.map It.pl) nx kd M).2.1] 29 (0, 0)) ∧ HV w' lo K'.length va' vc' K' ∧ K'.map It.pl = (assP (K.map It.pl) nx kd M).2.2 ∧ Below lo w w' := by
  obtain ⟨i0, hi, hz0, hz1, hz2⟩ := info_parts Tryd.info54
  have HKn := hide hKn
  have HL := hide hl
  have HM := hide hm
  have b1 := below_al w (.cells #[.string kd, .slice b M.length cb] 41)
  have hF := box2_new w (.string kd) (.slice b M.length cb) 41
  have hP := box_step hp b1
  have HFp : Hid (w.heap.size ≠ p) := Nat.ne_of_gt (Array.getElem?_eq_some_iff.1 hp).1
  have hv1 := hv.later b1
  have hq1 := hq.below b1
  clear hp hv hq hKn hl hm
  go_enter Tryd.func38, Tryd.ntmps38
  go_wp2_with fail
  generalize w.alloc (.cells #[.string kd, .slice b M.length cb] 41) = w1 at b1 hF hP hv1 hq1 ⊢
  obtain ⟨-, -, -, -, -, hr1, -⟩ := gi hv1 HKn.out hP
  have hr1d : RdI w1.drew va K := hr1.below (Below.refl _ _).drew
  have hq1d : RdV w1.drew b M := hq1.heap rfl
  have S1 : w1.cell? ⟨p, 0, none⟩ = some (.slice va n vc) ∧ w1.cell? ⟨p, 1, none⟩ = some (.int .i64 nx) ∧ w1.cell? ⟨w.heap.size, 0, none⟩ = some (.string kd) ∧ w1.cell? ⟨w.heap.size, 1, none⟩ = some (.slice b M.length cb) := ⟨(box2_cell hP).1, sA hP hF⟩
  refine wp_region_held_drew (S := fun W => W.cell? ⟨p, 0, none⟩ = some (.slice va n vc) ∧ W.cell? ⟨p, 1, none⟩ = some (.int .i64 nx) ∧ W.cell? ⟨w.heap.size, 0, none⟩ = some (.string kd) ∧ W.cell? ⟨w.heap.size, 1, none⟩ = some (.slice b M.length cb)) (by kernel_rfl) S1 (fun hHeld => ?_)
  refine wpAnyH_take (i := 0) (oi := Oper.mk (some 6) _ _ _ _ _) (v := ?v1) rfl (by kernel_rfl) (by kernel_rfl) (by kernel_rfl) (fun _ _ _ h => h) (Or.inl ⟨by rfl, ?y1⟩) hHeld ?r1
  case y1 => (intro W hSW; obtain ⟨q0, q1, q2, q3⟩ := hSW; go_simp; try with_reducible rfl)
  simp only [Act.put, List.setIfInBounds_toArray, List.set_cons_zero, List.set_cons_succ]
  refine wpAnyH_take (i := 1) (oi := Oper.mk (some 7) _ _ _ _ _) (v := ?v2) rfl (by kernel_rfl) (by kernel_rfl) (by kernel_rfl) (fun _ _ _ h => h) (Or.inl ⟨by rfl, ?y2⟩) hHeld ?r2
  case y2 => (intro W hSW; obtain ⟨q0, q1, q2, q3⟩ := hSW; go_simp; try with_reducible rfl)
  simp only [Act.put, List.setIfInBounds_toArray, List.set_cons_zero, List.set_cons_succ]
  refine wpAnyH_take (i := 2) (oi := Oper.mk (some 8) _ _ _ _ _) (v := ?v3) rfl (by kernel_rfl) (by kernel_rfl) (by kernel_rfl) (fun _ _ _ h => h) (Or.inl ⟨by rfl, ?y3⟩) hHeld ?r3
  case y3 => (intro W hSW; obtain ⟨q0, q1, q2, q3⟩ := hSW; go_simp; try with_reducible rfl)
  simp only [Act.put, List.setIfInBounds_toArray, List.set_cons_zero, List.set_cons_succ]
  refine wpAnyH_take (i := 3) (oi := Oper.mk (some 9) _ _ _ _ _) (v := ?v4) rfl (by kernel_rfl) (by kernel_rfl) (by kernel_rfl) (fun _ _ _ h => h) (Or.inl ⟨by rfl, ?y4⟩) hHeld ?r4
  case y4 => (intro W hSW; obtain ⟨q0, q1, q2, q3⟩ := hSW; go_simp; try with_reducible rfl)
  simp only [Act.put, List.setIfInBounds_toArray, List.set_cons_zero, List.set_cons_succ]
  refine wpAnyH_ready (rs := [4]) (by kernel_rfl) (by simp) (AllReadyH.cons (o := Oper.mk (some 10) _ _ _ _ _) rfl (fun Kk hK => ?_) AllReadyH.nil)
  go_simp
  refine (specIdOf_any va b n vc cb nx kd K M _ hr1d hq1d HKn.out (by omega) HL.out HM.out).mono ?_
  rintro e w2 ⟨rfl, b2⟩
  have hb2 : Below w1.heap.size w1 w2 := below_dr b2
  have hP2 := box_step hP hb2
  have hF2 := box_step hF hb2
  refine hK.out _ _ ⟨(box2_cell hP2).1, sA hP2 hF2⟩ (fun hHeld => ?_)
  clear hK Kk
  refine wpAnyH_take (i := 5) (oi := Oper.mk (some 5) _ _ _ _ _) (v := ?v5) rfl (by kernel_rfl) (by kernel_rfl) (by kernel_rfl) (fun _ _ _ h => h) (Or.inl ⟨by rfl, ?y5⟩) hHeld ?r5
  case y5 => (intro W hSW; obtain ⟨q0, q1, q2, q3⟩ := hSW; go_simp; try with_reducible rfl)
  simp only [Act.put, List.setIfInBounds_toArray, List.set_cons_zero, List.set_cons_succ]
  refine wpAnyH_done (by kernel_rfl) ?_ _
  have hv2 := hv1.later hb2
  have hq2 := hq1.below hb2
  have hB2 : Below lo w w2 := (b1.mono hlo).trans (hb2.mono (Nat.le_trans hlo b1.size))
  have hlo2 : lo ≤ w2.heap.size := Nat.le_trans hlo (Nat.le_trans b1.size hb2.size)
  clear hHeld b1 hF hP hv1 hq1 hr1 hr1d hq1d S1 b2 hb2
  obtain ⟨o2, o21, -, -⟩ := box2_cell hP2
  have HV2 := hide hv2
  have HBd := hide hB2
  have HPP := hide hP2
  obtain ⟨r, hr⟩ : ∃ r, idP (K.map It.pl) kd M = r := ⟨_, rfl⟩
  have HR := hide hr
  rw [hr]
  clear hr
  by_cases h0 : 0 < r
  · have HA : Hid (assP (K.map It.pl) nx kd M = (r, nx, K.map It.pl)) := by unfold Hid assP; rw [HR.out, if_pos h0]
    clear hv2 hB2 hP2 hF2
    go_wp2
    go_ret
    exact ⟨by rw [HA.out]; rfl, va, vc, K, by rw [HA.out, HKn.out]; exact HPP.out, by rw [HKn.out]; exact HV2.out, by rw [HA.out], HBd.out⟩
  · by_cases h1 : 40 ≤ n
    · have HA : Hid (assP (K.map It.pl) nx kd M = (0, nx, K.map It.pl)) := by unfold Hid assP; rw [HR.out, if_neg h0, if_pos (Or.inl (by rw [List.length_map, HKn.out]; exact h1))]
      have h1' : (40 : Int) ≤ (n : Int) := by omega
      clear hv2 hB2 hP2 hF2
      go_wp2
      go_ret
      exact ⟨by rw [HA.out]; rfl, va, vc, K, by rw [HA.out, HKn.out]; exact HPP.out, by rw [HKn.out]; exact HV2.out, by rw [HA.out], HBd.out⟩
    · have h1' : ¬ ((40 : Int) ≤ (n : Int)) := by omega
      by_cases h2 : 1000000 ≤ nx
      · have HA : Hid (assP (K.map It.pl) nx kd M = (0, nx, K.map It.pl)) := by unfold Hid assP; rw [HR.out, if_neg h0, if_pos (Or.inr h2)]
        clear hv2 hB2 hP2 hF2
        go_wp2
        go_ret
        exact ⟨by rw [HA.out]; rfl, va, vc, K, by rw [HA.out, HKn.out]; exact HPP.out, by rw [HKn.out]; exact HV2.out, by rw [HA.out], HBd.out⟩
      · have HA : Hid (assP (K.map It.pl) nx kd M = (nx, nx + 1, K.map It.pl ++ [⟨nx, kd, M⟩])) := by unfold Hid assP; rw [HR.out, if_neg h0, if_neg (by rw [List.length_map, HKn.out]; omega)]
        obtain ⟨g, hgs, hcop, hob, hown2, -, hgT⟩ := gi hv2 HKn.out hP2
        have HCop := hide hcop
        have HOb := hide hob
        have HFg : Hid (w.heap.size ≠ g) := by
          rintro e
          rcases hgT with e2 | ⟨cur, e2⟩
          · exact HFp.out (e.trans e2)
          · rw [← e, hF2] at e2
            simp only [Option.some.injEq, Obj.cells.injEq] at e2
            exact absurd e2.2.1 (by decide)
        have hq2d : RdV w2.drew b M := hq2.heap rfl
        have S2 := sA hP2 hF2
        clear hcop hob hgT hv2 HV2 HBd HPP
        go_wp2_with fail
        refine wp_region_held_drew (S := fun W => W.cell? ⟨p, 1, none⟩ = some (.int .i64 nx) ∧ W.cell? ⟨w.heap.size, 0, none⟩ = some (.string kd) ∧ W.cell? ⟨w.heap.size, 1, none⟩ = some (.slice b M.length cb)) (by kernel_rfl) S2 (fun hHeld => ?_)
        refine wpAnyH_take (i := 0) (oi := Oper.mk (some 27) _ _ _ _ _) (v := ?v6) rfl (by kernel_rfl) (by kernel_rfl) (by kernel_rfl) (fun _ _ _ h => h) (Or.inl ⟨by rfl, ?y6⟩) hHeld ?r6
        case y6 => (intro W hSW; obtain ⟨q0, q1, q2⟩ := hSW; go_simp; try with_reducible rfl)
        simp only [Act.put, List.setIfInBounds_toArray, List.set_cons_zero, List.set_cons_succ]
        refine wpAnyH_take (i := 1) (oi := Oper.mk (some 28) _ _ _ _ _) (v := ?v7) rfl (by kernel_rfl) (by kernel_rfl) (by kernel_rfl) (fun _ _ _ h => h) (Or.inl ⟨by rfl, ?y7⟩) hHeld ?r7
        case y7 => (intro W hSW; obtain ⟨q0, q1, q2⟩ := hSW; go_simp; try with_reducible rfl)
        simp only [Act.put, List.setIfInBounds_toArray, List.set_cons_zero, List.set_cons_succ]
        refine wpAnyH_take (i := 2) (oi := Oper.mk (some 29) _ _ _ _ _) (v := ?v8) rfl (by kernel_rfl) (by kernel_rfl) (by kernel_rfl) (fun _ _ _ h => h) (Or.inl ⟨by rfl, ?y8⟩) hHeld ?r8
        case y8 => (intro W hSW; obtain ⟨q0, q1, q2⟩ := hSW; go_simp; try with_reducible rfl)
        simp only [Act.put, List.setIfInBounds_toArray, List.set_cons_zero, List.set_cons_succ]
        refine wpAnyH_take (i := 3) (oi := Oper.mk (some 30) _ _ _ _ _) (v := ?v9) rfl (by kernel_rfl) (by kernel_rfl) (by kernel_rfl) (fun _ _ _ h => h) (Or.inl ⟨by rfl, ?y9⟩) hHeld ?r9
        case y9 => (intro W hSW; obtain ⟨q0, q1, q2⟩ := hSW; go_simp; try with_reducible rfl)
        simp only [Act.put, List.setIfInBounds_toArray, List.set_cons_zero, List.set_cons_succ]
        refine wpAnyH_take (i := 5) (oi := Oper.mk (some 32) _ _ _ _ _) (v := ?v10) rfl (by kernel_rfl) (by kernel_rfl) (by kernel_rfl) (fun _ _ _ h => h) (Or.inl ⟨by rfl, ?y10⟩) hHeld ?r10
        case y10 => (intro W hSW; obtain ⟨q0, q1, q2⟩ := hSW; go_simp; try with_reducible rfl)
        simp only [Act.put, List.setIfInBounds_toArray, List.set_cons_zero, List.set_cons_succ]
        refine wpAnyH_take (i := 6) (oi := Oper.mk (some 33) _ _ _ _ _) (v := ?v11) rfl (by kernel_rfl) (by kernel_rfl) (by kernel_rfl) (fun _ _ _ h => h) (Or.inl ⟨by rfl, ?y11⟩) hHeld ?r11
        case y11 => (intro W hSW; obtain ⟨q0, q1, q2⟩ := hSW; go_simp; try with_reducible rfl)
        simp only [Act.put, List.setIfInBounds_toArray, List.set_cons_zero, List.set_cons_succ]
        refine wpAnyH_take (i := 7) (oi := Oper.mk (some 34) _ _ _ _ _) (v := ?v12) rfl (by kernel_rfl) (by kernel_rfl) (by kernel_rfl) (fun _ _ _ h => h) (Or.inl ⟨by rfl, ?y12⟩) hHeld ?r12
        case y12 => (intro W hSW; obtain ⟨q0, q1, q2⟩ := hSW; go_simp; try with_reducible rfl)
        simp only [Act.put, List.setIfInBounds_toArray, List.set_cons_zero, List.set_cons_succ]
        refine wpAnyH_take (i := 8) (oi := Oper.mk (some 35) _ _ _ _ _) (v := ?v13) rfl (by kernel_rfl) (by kernel_rfl) (by kernel_rfl) (fun _ _ _ h => h) (Or.inl ⟨by rfl, ?y13⟩) hHeld ?r13
        case y13 => (intro W hSW; obtain ⟨q0, q1, q2⟩ := hSW; go_simp; try with_reducible rfl)
        simp only [Act.put, List.setIfInBounds_toArray, List.set_cons_zero, List.set_cons_succ]
        refine wpAnyH_take (i := 9) (oi := Oper.mk (some 36) _ _ _ _ _) (v := ?v14) rfl (by kernel_rfl) (by kernel_rfl) (by kernel_rfl) (fun _ _ _ h => h) (Or.inl ⟨by rfl, ?y14⟩) hHeld ?r14
        case y14 => (intro W hSW; obtain ⟨q0, q1, q2⟩ := hSW; go_simp; try with_reducible rfl)
        simp only [Act.put, List.setIfInBounds_toArray, List.set_cons_zero, List.set_cons_succ]
        refine wpAnyH_ready (rs := [4, 10]) (by kernel_rfl) (by simp) (AllReadyH.cons (o := Oper.mk (some 31) _ _ _ _ _) rfl (fun Kk hK => ?_) (AllReadyH.cons (o := Oper.mk (some 37) _ _ _ _ _) rfl (fun Kk hK => ?_) AllReadyH.nil))
        · go_simp
          refine hK.out _ _ S2 (fun hHeld => ?_)
          clear hK Kk
          refine wpAnyH_ready (rs := [10]) (by kernel_rfl) (by simp) (AllReadyH.cons (o := Oper.mk (some 37) _ _ _ _ _) rfl (fun Kk hK => ?_) AllReadyH.nil)
          go_simp
          refine (l3Copy_any kd b cb M _ hq2d HM.out).mono ?_
          rintro e w3 ⟨a', c', rfl, hnew, b3⟩
          have hbr3 : Below w2.heap.size w2 w3 := below_dr b3
          have hP3 := box_step hP2 hbr3
          have hF3 := box_step hF2 hbr3
          have S3 := sA hP3 hF3
          obtain ⟨o3, -, -, -⟩ := box2_cell hP3
          refine hK.out _ _ S3 (fun hHeld => ?_)
          clear hK Kk
          refine wpAnyH_take (i := 11) (oi := Oper.mk (some 38) _ _ _ _ _) (v := ?v15) rfl (by kernel_rfl) (by kernel_rfl) (by kernel_rfl) (fun _ _ _ h => h) (Or.inl ⟨by rfl, ?y15⟩) hHeld ?r15
          case y15 => (intro W hSW; obtain ⟨q0, q1, q2⟩ := hSW; go_simp; try with_reducible rfl)
          simp only [Act.put, List.setIfInBounds_toArray, List.set_cons_zero, List.set_cons_succ]
          refine wpAnyH_ready (rs := [12]) (by kernel_rfl) (by simp) (AllReadyH.cons (o := Oper.mk (some 39) _ _ _ _ _) rfl (fun Kk hK => ?_) AllReadyH.nil)
          go_simp
          have ba4 := below_al w3 (.cells #[.int .i64 nx, .string kd, .slice a' M.length c'] 54)
          have hbr4 := hbr3.trans (ba4.mono hbr3.size)
          have hnew4 : NewV _ w2.heap.size a' c' M := hnew.later ba4
          have HSrc := hide (srcI w3 ⟨nx, kd, a', c', M⟩)
          have HO4 := hide (ownsRow_below hown2 hbr4)
          have hP4 := box_step hP2 hbr4
          have hF4 := box_step hF2 hbr4
          have S4 := sA hP4 hF4
          obtain ⟨o4, -, -, -⟩ := box2_cell hP4
          have hB4 : Below lo w _ := hB2.trans (hbr4.mono hlo2)
          refine hK.out _ _ S4 (fun hHeld => ?_)
          clear hK Kk
          refine wpAnyH_ready (rs := [13]) (by kernel_rfl) (by simp) (AllReadyH.cons (o := Oper.mk (some 40) _ _ _ _ _) rfl (fun Kk hK => ?_) AllReadyH.nil)
          refine step_append_lies _ rfl (.tmp 31) (.tmp 39) 27 rfl 0 54 i0 (.agg #[.int .i64 0, .string ⟨#[]⟩, .slice none 0 0]) 3 48 Tryd.underlying27 hi hz0 hz1 hz2 rfl (by omega) (.slice va n vc) n (rowOf It.cells K) rfl HO4.out ⟨w3.heap.size, 0, none⟩ 1 1 (It.cells ⟨nx, kd, a', c', M⟩) ?hx rfl HSrc.out (oneI _) (by omega) (by unfold maxLen; omega) (by omega) (Nat.zero_le _) _ rfl ?_
          case hx => simp [Act.eval]
          intro g5 c5 w5 ho5 hg5 hat5 hlt5
          rw [rowI_app] at ho5
          have hlo4 : lo ≤ (w3.alloc (.cells #[.int .i64 nx, .string kd, .slice a' M.length c'] 54)).heap.size := Nat.le_trans hlo2 hbr4.size
          have hB5 : Below lo w w5 := hB4.grown hg5 hlo4 (fun q e => (HOb.out q e).2.1)
          have hP5 := (hg5.block p (Array.getElem?_eq_some_iff.1 hP4).1 (fun e => (HOb.out p e.symm).2.2 rfl)).trans hP4
          have hF5 := (hg5.block w.heap.size (Array.getElem?_eq_some_iff.1 hF4).1 (fun e => by have := (HOb.out _ e.symm).2.1; have := (HOb.out _ e.symm).1; exact HFg.out this)).trans hF4
          have S5 := sA hP5 hF5
          obtain ⟨o5, o51, of0, of1⟩ := box2_cell hP5
          have hg5l : lo ≤ g5 := by
            rcases hat5 with e | e
            · exact (HOb.out g5 e).2.1
            · rw [e]; exact hlo4
          have hg5p : g5 ≠ p := by
            rcases hat5 with e | e
            · exact (HOb.out g5 e).2.2
            · rw [e]; exact Nat.ne_of_gt (Array.getElem?_eq_some_iff.1 hP4).1
          have HC4 := hide ((HCop.out ⟨nx, kd, a', c', M⟩).more (K' := K ++ [⟨nx, kd, a', c', M⟩]) (x := ⟨nx, kd, a', c', M⟩) hbr4 (World.grownBy.refl _ _) (fun i hi => iAt_app_lt (by rw [HKn.out]; exact hi)) (by have e := iAt_app_eq K ⟨nx, kd, a', c', M⟩; rw [HKn.out] at e; exact e) (by have e := iAt_app_eq K ⟨nx, kd, a', c', M⟩; rw [HKn.out] at e; rw [e]) (fun hne => by obtain ⟨q, e, h1, o⟩ := hnew4.own hne; exact ⟨q, e, h1, o⟩) hnew4.2 hlo2 hgs)
          have st := box2_set0 hP5 (.slice (some ⟨g5, 0, none⟩) (n + 1) c5)
          have HC6 := hide (HC4.out.rebase3 (w' := w5.setCell ⟨p, 0, none⟩ (.slice (some ⟨g5, 0, none⟩) (n + 1) c5)) (g' := g5) hP4 (fun q hq hne hnp => (st.2.block q (Nat.lt_of_lt_of_le hq hg5.size) (fun e => hnp (Option.some.inj e))).trans (hg5.block q hq (fun e => hne (HOb.out q e.symm).1))) (by rcases hat5 with e | e; exact .inl (HOb.out g5 e).1; exact .inr (Nat.le_of_eq e.symm)))
          have HO6 := hide (ownsRow_up (ownsRow_sameB (w' := w5.setCell ⟨p, 0, none⟩ (.slice (some ⟨g5, 0, none⟩) (n + 1) c5)) ho5 (fun q e => by have e1 : g5 = q := Option.some.inj e; subst e1; exact st.2.block g5 hlt5 (fun e => hg5p (Option.some.inj e)))) hg5l)
          have hB6 := hB5.grown st.2 (Nat.le_trans hlo4 hg5.size) (fun q e => by have e2 : p = q := Option.some.inj e; rw [← e2]; exact hlop)
          have hF6 := box_gr hF5 st.2 HFp.out
          have hP6 := st.1
          have S6 := sA hP6 hF6
          have HLen : Hid ((K ++ [(⟨nx, kd, a', c', M⟩ : It)]).length = n + 1) := by unfold Hid; rw [List.length_append, HKn.out]; rfl
          refine hK.out _ _ S5 (fun hHeld => ?_)
          clear hK Kk
          refine wpAnyH_take (i := 14) (oi := Oper.mk (some 41) _ _ _ _ _) (v := ?v16) rfl (by kernel_rfl) (by kernel_rfl) (by kernel_rfl) (fun _ _ _ h => h) (Or.inl ⟨by rfl, ?y16⟩) hHeld ?r16
          case y16 => (intro W hSW; obtain ⟨q0, q1, q2⟩ := hSW; go_simp; try with_reducible rfl)
          simp only [Act.put, List.setIfInBounds_toArray, List.set_cons_zero, List.set_cons_succ]
          refine wpAnyH_take (i := 15) (oi := Oper.mk (some 42) _ _ _ _ _) (v := ?v17) rfl (by kernel_rfl) (by kernel_rfl) (by kernel_rfl) (fun _ _ _ h => h) (Or.inl ⟨by rfl, ?y17⟩) hHeld ?r17
          case y17 => (intro W hSW; obtain ⟨q0, q1, q2⟩ := hSW; go_simp; try with_reducible rfl)
          simp only [Act.put, List.setIfInBounds_toArray, List.set_cons_zero, List.set_cons_succ]
          refine wpAnyH_ready (rs := [16]) (by kernel_rfl) (by simp) (AllReadyH.cons (o := Oper.mk none _ _ _ _ _) rfl (fun Kk hK => ?_) AllReadyH.nil)
          go_simp
          refine hK.out _ _ S6 (fun hHeld => ?_)
          clear hK Kk
          refine wpAnyH_done (by kernel_rfl) ?_ _
          have st2 := box2_set1 hP6 (.int .i64 (nx + 1))
          have HP7 := hide st2.1
          have HB7 := hide (hB6.grown st2.2 (Nat.le_trans (Nat.le_trans hlo4 hg5.size) st.2.size) (fun q e => by have e2 : p = q := Option.some.inj e; rw [← e2]; exact hlop))
          have HC7 := hide (HC6.out.rebase3 (w' := (w5.setCell ⟨p, 0, none⟩ (.slice (some ⟨g5, 0, none⟩) (n + 1) c5)).setCell ⟨p, 1, none⟩ (.int .i64 (nx + 1))) (g' := g5) hP6 (fun q hq hne hnp => st2.2.block q hq (fun e => hnp (Option.some.inj e))) (.inl rfl))
          have HO7 := hide (ownsRow_sameB (w' := (w5.setCell ⟨p, 0, none⟩ (.slice (some ⟨g5, 0, none⟩) (n + 1) c5)).setCell ⟨p, 1, none⟩ (.int .i64 (nx + 1))) HO6.out (fun q e => by have e1 : g5 = q := Option.some.inj e; subst e1; exact st2.2.block g5 (Nat.lt_of_lt_of_le hlt5 st.2.size) (fun e => hg5p (Option.some.inj e))))
          obtain ⟨p0, p1, pf0, pf1⟩ := box2_cell hP6
          obtain ⟨m0, m1, -, -⟩ := box2_cell HP7.out
          have HD := hide (Copied.done (cp := c5) (by rw [HLen.out]; exact HC7.out) rfl hg5l (by rw [HLen.out]; exact HO7.out))
          clear S2 S3 S4 S5 S6 st st2 o5 o51 of0 of1 hHeld o4 hP5 hF5 hP4 hF4 hP3 hF3 ho5 hg5 HO4 HSrc hnew4 hB4 hbr4 ba4 o3 hbr3 hnew b3 HC4 HC6 HC7 HCop HO6 HO7 o2 hB5 hB6 hF6 hP2 hF2
          go_wp2
          go_ret
          exact ⟨by rw [HA.out]; rfl, some ⟨g5, 0, none⟩, c5, K ++ [⟨nx, kd, a', c', M⟩], by rw [HA.out, HLen.out]; exact HP7.out, .inr ⟨g5, rfl, HD.out.1⟩, by rw [HA.out, List.map_append]; rfl, HB7.out⟩
        · go_simp
          refine (l3Copy_any kd b cb M _ hq2d HM.out).mono ?_
          rintro e w3 ⟨a', c', rfl, hnew, b3⟩
          have hbr3 : Below w2.heap.size w2 w3 := below_dr b3
          have hP3 := box_step hP2 hbr3
          have hF3 := box_step hF2 hbr3
          have S3 := sA hP3 hF3
          obtain ⟨o3, -, -, -⟩ := box2_cell hP3
          refine hK.out _ _ S3 (fun hHeld => ?_)
          clear hK Kk
          refine wpAnyH_take (i := 11) (oi := Oper.mk (some 38) _ _ _ _ _) (v := ?v18) rfl (by kernel_rfl) (by kernel_rfl) (by kernel_rfl) (fun _ _ _ h => h) (Or.inl ⟨by rfl, ?y18⟩) hHeld ?r18
          case y18 => (intro W hSW; obtain ⟨q0, q1, q2⟩ := hSW; go_simp; try with_reducible rfl)
          simp only [Act.put, List.setIfInBounds_toArray, List.set_cons_zero, List.set_cons_succ]
          refine wpAnyH_ready (rs := [4, 12]) (by kernel_rfl) (by simp) (AllReadyH.cons (o := Oper.mk (some 31) _ _ _ _ _) rfl (fun Kk hK => ?_) (AllReadyH.cons (o := Oper.mk (some 39) _ _ _ _ _) rfl (fun Kk hK => ?_) AllReadyH.nil))
          · go_simp
            refine hK.out _ _ S3 (fun hHeld => ?_)
            clear hK Kk
            refine wpAnyH_ready (rs := [12]) (by kernel_rfl) (by simp) (AllReadyH.cons (o := Oper.mk (some 39) _ _ _ _ _) rfl (fun Kk hK => ?_) AllReadyH.nil)
            go_simp
            have ba4 := below_al w3 (.cells #[.int .i64 nx, .string kd, .slice a' M.length c'] 54)
            have hbr4 := hbr3.trans (ba4.mono hbr3.size)
            have hnew4 : NewV _ w2.heap.size a' c' M := hnew.later ba4
            have HSrc := hide (srcI w3 ⟨nx, kd, a', c', M⟩)
            have HO4 := hide (ownsRow_below hown2 hbr4)
            have hP4 := box_step hP2 hbr4
            have hF4 := box_step hF2 hbr4
            have S4 := sA hP4 hF4
            obtain ⟨o4, -, -, -⟩ := box2_cell hP4
            have hB4 : Below lo w _ := hB2.trans (hbr4.mono hlo2)
            refine hK.out _ _ S4 (fun hHeld => ?_)
            clear hK Kk
            refine wpAnyH_ready (rs := [13]) (by kernel_rfl) (by simp) (AllReadyH.cons (o := Oper.mk (some 40) _ _ _ _ _) rfl (fun Kk hK => ?_) AllReadyH.nil)
            refine step_append_lies _ rfl (.tmp 31) (.tmp 39) 27 rfl 0 54 i0 (.agg #[.int .i64 0, .string ⟨#[]⟩, .slice none 0 0]) 3 48 Tryd.underlying27 hi hz0 hz1 hz2 rfl (by omega) (.slice va n vc) n (rowOf It.cells K) rfl HO4.out ⟨w3.heap.size, 0, none⟩ 1 1 (It.cells ⟨nx, kd, a', c', M⟩) ?hx rfl HSrc.out (oneI _) (by omega) (by unfold maxLen; omega) (by omega) (Nat.zero_le _) _ rfl ?_
            case hx => simp [Act.eval]
            intro g5 c5 w5 ho5 hg5 hat5 hlt5
            rw [rowI_app] at ho5
            have hlo4 : lo ≤ (w3.alloc (.cells #[.int .i64 nx, .string kd, .slice a' M.length c'] 54)).heap.size := Nat.le_trans hlo2 hbr4.size
            have hB5 : Below lo w w5 := hB4.grown hg5 hlo4 (fun q e => (HOb.out q e).2.1)
            have hP5 := (hg5.block p (Array.getElem?_eq_some_iff.1 hP4).1 (fun e => (HOb.out p e.symm).2.2 rfl)).trans hP4
            have hF5 := (hg5.block w.heap.size (Array.getElem?_eq_some_iff.1 hF4).1 (fun e => by have := (HOb.out _ e.symm).2.1; have := (HOb.out _ e.symm).1; exact HFg.out this)).trans hF4
            have S5 := sA hP5 hF5
            obtain ⟨o5, o51, of0, of1⟩ := box2_cell hP5
            have hg5l : lo ≤ g5 := by
              rcases hat5 with e | e
              · exact (HOb.out g5 e).2.1
              · rw [e]; exact hlo4
            have hg5p : g5 ≠ p := by
              rcases hat5 with e | e
              · exact (HOb.out g5 e).2.2
              · rw [e]; exact Nat.ne_of_gt (Array.getElem?_eq_some_iff.1 hP4).1
            have HC4 := hide ((HCop.out ⟨nx, kd, a', c', M⟩).more (K' := K ++ [⟨nx, kd, a', c', M⟩]) (x := ⟨nx, kd, a', c', M⟩) hbr4 (World.grownBy.refl _ _) (fun i hi => iAt_app_lt (by rw [HKn.out]; exact hi)) (by have e := iAt_app_eq K ⟨nx, kd, a', c', M⟩; rw [HKn.out] at e; exact e) (by have e := iAt_app_eq K ⟨nx, kd, a', c', M⟩; rw [HKn.out] at e; rw [e]) (fun hne => by obtain ⟨q, e, h1, o⟩ := hnew4.own hne; exact ⟨q, e, h1, o⟩) hnew4.2 hlo2 hgs)
            have st := box2_set0 hP5 (.slice (some ⟨g5, 0, none⟩) (n + 1) c5)
            have HC6 := hide (HC4.out.rebase3 (w' := w5.setCell ⟨p, 0, none⟩ (.slice (some ⟨g5, 0, none⟩) (n + 1) c5)) (g' := g5) hP4 (fun q hq hne hnp => (st.2.block q (Nat.lt_of_lt_of_le hq hg5.size) (fun e => hnp (Option.some.inj e))).trans (hg5.block q hq (fun e => hne (HOb.out q e.symm).1))) (by rcases hat5 with e | e; exact .inl (HOb.out g5 e).1; exact .inr (Nat.le_of_eq e.symm)))
            have HO6 := hide (ownsRow_up (ownsRow_sameB (w' := w5.setCell ⟨p, 0, none⟩ (.slice (some ⟨g5, 0, none⟩) (n + 1) c5)) ho5 (fun q e => by have e1 : g5 = q := Option.some.inj e; subst e1; exact st.2.block g5 hlt5 (fun e => hg5p (Option.some.inj e)))) hg5l)
            have hB6 := hB5.grown st.2 (Nat.le_trans hlo4 hg5.size) (fun q e => by have e2 : p = q := Option.some.inj e; rw [← e2]; exact hlop)
            have hF6 := box_gr hF5 st.2 HFp.out
            have hP6 := st.1
            have S6 := sA hP6 hF6
            have HLen : Hid ((K ++ [(⟨nx, kd, a', c', M⟩ : It)]).length = n + 1) := by unfold Hid; rw [List.length_append, HKn.out]; rfl
            refine hK.out _ _ S5 (fun hHeld => ?_)
            clear hK Kk
            refine wpAnyH_take (i := 14) (oi := Oper.mk (some 41) _ _ _ _ _) (v := ?v19) rfl (by kernel_rfl) (by kernel_rfl) (by kernel_rfl) (fun _ _ _ h => h) (Or.inl ⟨by rfl, ?y19⟩) hHeld ?r19
            case y19 => (intro W hSW; obtain ⟨q0, q1, q2⟩ := hSW; go_simp; try with_reducible rfl)
            simp only [Act.put, List.setIfInBounds_toArray, List.set_cons_zero, List.set_cons_succ]
            refine wpAnyH_take (i := 15) (oi := Oper.mk (some 42) _ _ _ _ _) (v := ?v20) rfl (by kernel_rfl) (by kernel_rfl) (by kernel_rfl) (fun _ _ _ h => h) (Or.inl ⟨by rfl, ?y20⟩) hHeld ?r20
            case y20 => (intro W hSW; obtain ⟨q0, q1, q2⟩ := hSW; go_simp; try with_reducible rfl)
            simp only [Act.put, List.setIfInBounds_toArray, List.set_cons_zero, List.set_cons_succ]
            refine wpAnyH_ready (rs := [16]) (by kernel_rfl) (by simp) (AllReadyH.cons (o := Oper.mk none _ _ _ _ _) rfl (fun Kk hK => ?_) AllReadyH.nil)
            go_simp
            refine hK.out _ _ S6 (fun hHeld => ?_)
            clear hK Kk
            refine wpAnyH_done (by kernel_rfl) ?_ _
            have st2 := box2_set1 hP6 (.int .i64 (nx + 1))
            have HP7 := hide st2.1
            have HB7 := hide (hB6.grown st2.2 (Nat.le_trans (Nat.le_trans hlo4 hg5.size) st.2.size) (fun q e => by have e2 : p = q := Option.some.inj e; rw [← e2]; exact hlop))
            have HC7 := hide (HC6.out.rebase3 (w' := (w5.setCell ⟨p, 0, none⟩ (.slice (some ⟨g5, 0, none⟩) (n + 1) c5)).setCell ⟨p, 1, none⟩ (.int .i64 (nx + 1))) (g' := g5) hP6 (fun q hq hne hnp => st2.2.block q hq (fun e => hnp (Option.some.inj e))) (.inl rfl))
            have HO7 := hide (ownsRow_sameB (w' := (w5.setCell ⟨p, 0, none⟩ (.slice (some ⟨g5, 0, none⟩) (n + 1) c5)).setCell ⟨p, 1, none⟩ (.int .i64 (nx + 1))) HO6.out (fun q e => by have e1 : g5 = q := Option.some.inj e; subst e1; exact st2.2.block g5 (Nat.lt_of_lt_of_le hlt5 st.2.size) (fun e => hg5p (Option.some.inj e))))
            obtain ⟨p0, p1, pf0, pf1⟩ := box2_cell hP6
            obtain ⟨m0, m1, -, -⟩ := box2_cell HP7.out
            have HD := hide (Copied.done (cp := c5) (by rw [HLen.out]; exact HC7.out) rfl hg5l (by rw [HLen.out]; exact HO7.out))
            clear S2 S3 S4 S5 S6 st st2 o5 o51 of0 of1 hHeld o4 hP5 hF5 hP4 hF4 hP3 hF3 ho5 hg5 HO4 HSrc hnew4 hB4 hbr4 ba4 o3 hbr3 hnew b3 HC4 HC6 HC7 HCop HO6 HO7 o2 hB5 hB6 hF6 hP2 hF2
            go_wp2
            go_ret
            exact ⟨by rw [HA.out]; rfl, some ⟨g5, 0, none⟩, c5, K ++ [⟨nx, kd, a', c', M⟩], by rw [HA.out, HLen.out]; exact HP7.out, .inr ⟨g5, rfl, HD.out.1⟩, by rw [HA.out, List.map_append]; rfl, HB7.out⟩
          · go_simp
            have ba4 := below_al w3 (.cells #[.int .i64 nx, .string kd, .slice a' M.length c'] 54)
            have hbr4 := hbr3.trans (ba4.mono hbr3.size)
            have hnew4 : NewV _ w2.heap.size a' c' M := hnew.later ba4
            have HSrc := hide (srcI w3 ⟨nx, kd, a', c', M⟩)
            have HO4 := hide (ownsRow_below hown2 hbr4)
            have hP4 := box_step hP2 hbr4
            have hF4 := box_step hF2 hbr4
            have S4 := sA hP4 hF4
            obtain ⟨o4, -, -, -⟩ := box2_cell hP4
            have hB4 : Below lo w _ := hB2.trans (hbr4.mono hlo2)
            refine hK.out _ _ S4 (fun hHeld => ?_)
            clear hK Kk
            refine wpAnyH_ready (rs := [4]) (by kernel_rfl) (by simp) (AllReadyH.cons (o := Oper.mk (some 31) _ _ _ _ _) rfl (fun Kk hK => ?_) AllReadyH.nil)
            go_simp
            refine hK.out _ _ S4 (fun hHeld => ?_)
            clear hK Kk
            refine wpAnyH_ready (rs := [13]) (by kernel_rfl) (by simp) (AllReadyH.cons (o := Oper.mk (some 40) _ _ _ _ _) rfl (fun Kk hK => ?_) AllReadyH.nil)
            refine step_append_lies _ rfl (.tmp 31) (.tmp 39) 27 rfl 0 54 i0 (.agg #[.int .i64 0, .string ⟨#[]⟩, .slice none 0 0]) 3 48 Tryd.underlying27 hi hz0 hz1 hz2 rfl (by omega) (.slice va n vc) n (rowOf It.cells K) rfl HO4.out ⟨w3.heap.size, 0, none⟩ 1 1 (It.cells ⟨nx, kd, a', c', M⟩) ?hx rfl HSrc.out (oneI _) (by omega) (by unfold maxLen; omega) (by omega) (Nat.zero_le _) _ rfl ?_
            case hx => simp [Act.eval]
            intro g5 c5 w5 ho5 hg5 hat5 hlt5
            rw [rowI_app] at ho5
            have hlo4 : lo ≤ (w3.alloc (.cells #[.int .i64 nx, .string kd, .slice a' M.length c'] 54)).heap.size := Nat.le_trans hlo2 hbr4.size
            have hB5 : Below lo w w5 := hB4.grown hg5 hlo4 (fun q e => (HOb.out q e).2.1)
            have hP5 := (hg5.block p (Array.getElem?_eq_some_iff.1 hP4).1 (fun e => (HOb.out p e.symm).2.2 rfl)).trans hP4
            have hF5 := (hg5.block w.heap.size (Array.getElem?_eq_some_iff.1 hF4).1 (fun e => by have := (HOb.out _ e.symm).2.1; have := (HOb.out _ e.symm).1; exact HFg.out this)).trans hF4
            have S5 := sA hP5 hF5
            obtain ⟨o5, o51, of0, of1⟩ := box2_cell hP5
            have hg5l : lo ≤ g5 := by
              rcases hat5 with e | e
              · exact (HOb.out g5 e).2.1
              · rw [e]; exact hlo4
            have hg5p : g5 ≠ p := by
              rcases hat5 with e | e
              · exact (HOb.out g5 e).2.2
              · rw [e]; exact Nat.ne_of_gt (Array.getElem?_eq_some_iff.1 hP4).1
            have HC4 := hide ((HCop.out ⟨nx, kd, a', c', M⟩).more (K' := K ++ [⟨nx, kd, a', c', M⟩]) (x := ⟨nx, kd, a', c', M⟩) hbr4 (World.grownBy.refl _ _) (fun i hi => iAt_app_lt (by rw [HKn.out]; exact hi)) (by have e := iAt_app_eq K ⟨nx, kd, a', c', M⟩; rw [HKn.out] at e; exact e) (by have e := iAt_app_eq K ⟨nx, kd, a', c', M⟩; rw [HKn.out] at e; rw [e]) (fun hne => by obtain ⟨q, e, h1, o⟩ := hnew4.own hne; exact ⟨q, e, h1, o⟩) hnew4.2 hlo2 hgs)
            have st := box2_set0 hP5 (.slice (some ⟨g5, 0, none⟩) (n + 1) c5)
            have HC6 := hide (HC4.out.rebase3 (w' := w5.setCell ⟨p, 0, none⟩ (.slice (some ⟨g5, 0, none⟩) (n + 1) c5)) (g' := g5) hP4 (fun q hq hne hnp => (st.2.block q (Nat.lt_of_lt_of_le hq hg5.size) (fun e => hnp (Option.some.inj e))).trans (hg5.block q hq (fun e => hne (HOb.out q e.symm).1))) (by rcases hat5 with e | e; exact .inl (HOb.out g5 e).1; exact .inr (Nat.le_of_eq e.symm)))
            have HO6 := hide (ownsRow_up (ownsRow_sameB (w' := w5.setCell ⟨p, 0, none⟩ (.slice (some ⟨g5, 0, none⟩) (n + 1) c5)) ho5 (fun q e => by have e1 : g5 = q := Option.some.inj e; subst e1; exact st.2.block g5 hlt5 (fun e => hg5p (Option.some.inj e)))) hg5l)
            have hB6 := hB5.grown st.2 (Nat.le_trans hlo4 hg5.size) (fun q e => by have e2 : p = q := Option.some.inj e; rw [← e2]; exact hlop)
            have hF6 := box_gr hF5 st.2 HFp.out
            have hP6 := st.1
            have S6 := sA hP6 hF6
            have HLen : Hid ((K ++ [(⟨nx, kd, a', c', M⟩ : It)]).length = n + 1) := by unfold Hid; rw [List.length_append, HKn.out]; rfl
            refine hK.out _ _ S5 (fun hHeld => ?_)
            clear hK Kk
            refine wpAnyH_take (i := 14) (oi := Oper.mk (some 41) _ _ _ _ _) (v := ?v21) rfl (by kernel_rfl) (by kernel_rfl) (by kernel_rfl) (fun _ _ _ h => h) (Or.inl ⟨by rfl, ?y21⟩) hHeld ?r21
            case y21 => (intro W hSW; obtain ⟨q0, q1, q2⟩ := hSW; go_simp; try with_reducible rfl)
            simp only [Act.put, List.setIfInBounds_toArray, List.set_cons_zero, List.set_cons_succ]
            refine wpAnyH_take (i := 15) (oi := Oper.mk (some 42) _ _ _ _ _) (v := ?v22) rfl (by kernel_rfl) (by kernel_rfl) (by kernel_rfl) (fun _ _ _ h => h) (Or.inl ⟨by rfl, ?y22⟩) hHeld ?r22
            case y22 => (intro W hSW; obtain ⟨q0, q1, q2⟩ := hSW; go_simp; try with_reducible rfl)
            simp only [Act.put, List.setIfInBounds_toArray, List.set_cons_zero, List.set_cons_succ]
            refine wpAnyH_ready (rs := [16]) (by kernel_rfl) (by simp) (AllReadyH.cons (o := Oper.mk none _ _ _ _ _) rfl (fun Kk hK => ?_) AllReadyH.nil)
            go_simp
            refine hK.out _ _ S6 (fun hHeld => ?_)
            clear hK Kk
            refine wpAnyH_done (by kernel_rfl) ?_ _
            have st2 := box2_set1 hP6 (.int .i64 (nx + 1))
            have HP7 := hide st2.1
            have HB7 := hide (hB6.grown st2.2 (Nat.le_trans (Nat.le_trans hlo4 hg5.size) st.2.size) (fun q e => by have e2 : p = q := Option.some.inj e; rw [← e2]; exact hlop))
            have HC7 := hide (HC6.out.rebase3 (w' := (w5.setCell ⟨p, 0, none⟩ (.slice (some ⟨g5, 0, none⟩) (n + 1) c5)).setCell ⟨p, 1, none⟩ (.int .i64 (nx + 1))) (g' := g5) hP6 (fun q hq hne hnp => st2.2.block q hq (fun e => hnp (Option.some.inj e))) (.inl rfl))
            have HO7 := hide (ownsRow_sameB (w' := (w5.setCell ⟨p, 0, none⟩ (.slice (some ⟨g5, 0, none⟩) (n + 1) c5)).setCell ⟨p, 1, none⟩ (.int .i64 (nx + 1))) HO6.out (fun q e => by have e1 : g5 = q := Option.some.inj e; subst e1; exact st2.2.block g5 (Nat.lt_of_lt_of_le hlt5 st.2.size) (fun e => hg5p (Option.some.inj e))))
            obtain ⟨p0, p1, pf0, pf1⟩ := box2_cell hP6
            obtain ⟨m0, m1, -, -⟩ := box2_cell HP7.out
            have HD := hide (Copied.done (cp := c5) (by rw [HLen.out]; exact HC7.out) rfl hg5l (by rw [HLen.out]; exact HO7.out))
            clear S2 S3 S4 S5 S6 st st2 o5 o51 of0 of1 hHeld o4 hP5 hF5 hP4 hF4 hP3 hF3 ho5 hg5 HO4 HSrc hnew4 hB4 hbr4 ba4 o3 hbr3 hnew b3 HC4 HC6 HC7 HCop HO6 HO7 o2 hB5 hB6 hF6 hP2 hF2
            go_wp2
            go_ret
            exact ⟨by rw [HA.out]; rfl, some ⟨g5, 0, none⟩, c5, K ++ [⟨nx, kd, a', c', M⟩], by rw [HA.out, HLen.out]; exact HP7.out, .inr ⟨g5, rfl, HD.out.1⟩, by rw [HA.out, List.map_append]; rfl, HB7.out⟩
end Go.Proofs.YtaflokfgbmlmaadDoor
