/-
  Texts of this claim joined into one: L4Ass, HoldsO, AllB, Text, ValE, Val, VOk, Name, FactOk, StoreP.
-/
import Derived.Test.YtaflokfgbmlmaadDoorJoined1
import Derived.Test.YtaflokfgbmlmaadDoorJWord
import Derived.Test.YtaflokfgbmlmaadDoorJPlain
import Derived.Deep.RegionWith
import Derived.Deep.QuietTactic
import Derived.BigQuiet
import Derived.Handy
import Derived.Laws.StructEq
import Derived.Test.YtaflokfgbmlmaadDoorJV3
import Derived.Test.YtaflokfgbmlmaadDoorJBox2
import Derived.Test.YtaflokfgbmlmaadDoorJKeep6
/-
  The model's l4Assert: a fact asserted in a store that is written into.
-/
namespace Go.Proofs.YtaflokfgbmlmaadDoor
open Go.RowKit
set_option linter.unusedVariables false

theorem ownsRow_up {w : World} {base base' n size g cap : Nat} {T : TypeId} {xs : List Value} (h : w.ownsRow base T size (.slice (some ⟨g, 0, none⟩) n cap) n xs) (hb : base' ≤ g) : w.ownsRow base' T size (.slice (some ⟨g, 0, none⟩) n cap) n xs := by
  refine ⟨h.1, ?_⟩
  rcases h.2 with h2 | ⟨g', cap', cur, e, hb', rest⟩
  · exact absurd h2 (by simp)
  · have e2 := e
    simp only [Value.slice.injEq, Option.some.injEq, Addr.mk.injEq] at e2
    exact .inr ⟨g', cap', cur, e, by rw [← e2.1.1]; exact hb, rest⟩
/-- a store's items, in a block of the call's own or none at all -/
def HV (w : World) (lo n : Nat) (va : Option Addr) (vc : Nat) (K : List It) : Prop := (n = 0 ∧ K = [] ∧ va = none ∧ vc = 0) ∨ ∃ g, va = some ⟨g, 0, none⟩ ∧ HoldsI w lo g vc K
theorem HV.later {w w' : World} {lo n vc : Nat} {va : Option Addr} {K : List It} (h : HV w lo n va vc K) (hb : Below w.heap.size w w') : HV w' lo n va vc K :=
  h.imp id (fun ⟨g, e, o⟩ => ⟨g, e, o.later hb⟩)
theorem gi {w : World} {lo n vc p : Nat} {va : Option Addr} {K : List It} {cs : Array Value} (hv : HV w lo n va vc K) (hK : K.length = n) (hp : w.heap[p]? = some (.cells cs 29 (0, 0))) :
    ∃ g, g < w.heap.size ∧ (∀ x, Copied w lo g (K ++ [x]) K n) ∧ (∀ q, (Value.slice va n vc).ownBlock = some q → q = g ∧ lo ≤ q ∧ q ≠ p) ∧ w.ownsRow 0 54 3 (.slice va n vc) n (rowOf It.cells K) ∧ RdI w va K ∧ (g = p ∨ ∃ cur, w.heap[g]? = some (.cells cur 54 (0, 0))) := by
  rcases hv with ⟨rfl, rfl, rfl, rfl⟩ | ⟨g, rfl, o⟩
  · exact ⟨p, (Array.getElem?_eq_some_iff.1 hp).1, fun x => Copied.zero _ _ _ _ _, fun q e => (by cases e), World.ownsRow_nil _ _ _ _, RdI.nil _ _, .inl rfl⟩
  · subst hK
    refine ⟨g, o.lt, fun x => o.copied x, fun q e => by cases e; exact ⟨rfl, o.low, fun e => row_ne_box o.own hp (by decide) e.symm⟩, o.own, o.rd, .inr ?_⟩
    rcases o.own.2 with h2 | ⟨g', cap', cur, e, hb, hg, rest⟩
    · exact absurd h2 (by simp)
    · simp only [Value.slice.injEq, Option.some.injEq, Addr.mk.injEq] at e
      exact ⟨cur, by rw [e.1.1]; exact hg⟩
theorem sA {W : World} {p f : Nat} {v0 : Value} {nx : Int} {kd : ByteArray} {v1 : Value} (hp : W.heap[p]? = some (.cells #[v0, .int .i64 nx] 29 (0, 0))) (hf : W.heap[f]? = some (.cells #[.string kd, v1] 41 (0, 0))) :
    W.cell? ⟨p, 1, none⟩ = some (.int .i64 nx) ∧ W.cell? ⟨f, 0, none⟩ = some (.string kd) ∧ W.cell? ⟨f, 1, none⟩ = some v1 := ⟨(box2_cell hp).2.1, (box2_cell hf).1, (box2_cell hf).2.1⟩
/-- asserting, plainly: the Id, Next, the items -/
def assP (K : List P4) (nx : Int) (kd : ByteArray) (M : List V3) : Int × Int × List P4 := if 0 < idP K kd M then (idP K kd M, nx, K) else if 40 ≤ K.length ∨ 1000000 ≤ nx then (0, nx, K) else (nx, nx + 1, K ++ [⟨nx, kd, M⟩])

set_option maxRecDepth 100000 in
set_option maxHeartbeats 12800000 in
theorem l4Assert_any (p lo n vc cb : Nat) (va b : Option Addr) (nx : Int) (kd : ByteArray) (K : List It) (M : List V3) (w : World) (hp : w.heap[p]? = some (.cells #[.slice va n vc, .int .i64 nx] 29 (0, 0))) (hv : HV w lo n va vc K) (hKn : K.length = n) (hn : n ≤ 1048576) (hl : ∀ i, i < K.length → (iAt K i).L.length ≤ 1048580) (hq : RdV w b M) (hm : M.length ≤ 1048580) (hlop : lo ≤ p) (hlo : lo ≤ w.heap.size) (hnx : 0 ≤ nx) :
    Calls Tryd.prog 38 #[.pointer (some ⟨p, 0, none⟩), .agg #[.string kd, .slice b M.length cb]] w fun e w' =>
      e = .returned (.int .i64 (assP (K.map It.pl) nx kd M).1) ∧ ∃ va' vc' K', w'.heap[p]? = some (.cells #[.slice va' K'.length vc', .int .i64 (assP (K.map It.pl) nx kd M).2.1] 29 (0, 0)) ∧ HV w' lo K'.length va' vc' K' ∧ K'.map It.pl = (assP (K.map It.pl) nx kd M).2.2 ∧ Below lo w w' := by
  obtain ⟨i0, hi, hz0, hz1, hz2⟩ := info_parts Tryd.info54
  have HKn := hide hKn
  have HL := hide hl
  have HM := hide hm
  have b1 := below_al w (.cells #[.string kd, .slice b M.length cb] 41)
  have hF := box2_new w (.string kd) (.slice b M.length cb) 41
  have hP := box_step hp b1
  have HFp : Hid (w.heap.size ≠ p) := Nat.ne_of_gt (Array.getElem?_eq_some_iff.1 hp).1
  have hv1 := hv.later b1
  have hq1 := hq.below b1
  clear hp hv hq hKn hl hm
  go_enter Tryd.func38, Tryd.ntmps38
  go_wp2_with fail
  generalize w.alloc (.cells #[.string kd, .slice b M.length cb] 41) = w1 at b1 hF hP hv1 hq1 ⊢
  obtain ⟨-, -, -, -, -, hr1, -⟩ := gi hv1 HKn.out hP
  have hr1d : RdI w1.drew va K := hr1.below (Below.refl _ _).drew
  have hq1d : RdV w1.drew b M := hq1.heap rfl
  have S1 : w1.cell? ⟨p, 0, none⟩ = some (.slice va n vc) ∧ w1.cell? ⟨p, 1, none⟩ = some (.int .i64 nx) ∧ w1.cell? ⟨w.heap.size, 0, none⟩ = some (.string kd) ∧ w1.cell? ⟨w.heap.size, 1, none⟩ = some (.slice b M.length cb) := ⟨(box2_cell hP).1, sA hP hF⟩
  refine wp_region_held_drew (S := fun W => W.cell? ⟨p, 0, none⟩ = some (.slice va n vc) ∧ W.cell? ⟨p, 1, none⟩ = some (.int .i64 nx) ∧ W.cell? ⟨w.heap.size, 0, none⟩ = some (.string kd) ∧ W.cell? ⟨w.heap.size, 1, none⟩ = some (.slice b M.length cb)) (by kernel_rfl) S1 (fun hHeld => ?_)
  refine wpAnyH_take (i := 0) (oi := Oper.mk (some 6) _ _ _ _ _) (v := ?v1) rfl (by kernel_rfl) (by kernel_rfl) (by kernel_rfl) (fun _ _ _ h => h) (Or.inl ⟨by rfl, ?y1⟩) hHeld ?r1
  case y1 => (intro W hSW; obtain ⟨q0, q1, q2, q3⟩ := hSW; go_simp; try with_reducible rfl)
  simp only [Act.put, List.setIfInBounds_toArray, List.set_cons_zero, List.set_cons_succ]
  refine wpAnyH_take (i := 1) (oi := Oper.mk (some 7) _ _ _ _ _) (v := ?v2) rfl (by kernel_rfl) (by kernel_rfl) (by kernel_rfl) (fun _ _ _ h => h) (Or.inl ⟨by rfl, ?y2⟩) hHeld ?r2
  case y2 => (intro W hSW; obtain ⟨q0, q1, q2, q3⟩ := hSW; go_simp; try with_reducible rfl)
  simp only [Act.put, List.setIfInBounds_toArray, List.set_cons_zero, List.set_cons_succ]
  refine wpAnyH_take (i := 2) (oi := Oper.mk (some 8) _ _ _ _ _) (v := ?v3) rfl (by kernel_rfl) (by kernel_rfl) (by kernel_rfl) (fun _ _ _ h => h) (Or.inl ⟨by rfl, ?y3⟩) hHeld ?r3
  case y3 => (intro W hSW; obtain ⟨q0, q1, q2, q3⟩ := hSW; go_simp; try with_reducible rfl)
  simp only [Act.put, List.setIfInBounds_toArray, List.set_cons_zero, List.set_cons_succ]
  refine wpAnyH_take (i := 3) (oi := Oper.mk (some 9) _ _ _ _ _) (v := ?v4) rfl (by kernel_rfl) (by kernel_rfl) (by kernel_rfl) (fun _ _ _ h => h) (Or.inl ⟨by rfl, ?y4⟩) hHeld ?r4
  case y4 => (intro W hSW; obtain ⟨q0, q1, q2, q3⟩ := hSW; go_simp; try with_reducible rfl)
  simp only [Act.put, List.setIfInBounds_toArray, List.set_cons_zero, List.set_cons_succ]
  refine wpAnyH_ready (rs := [4]) (by kernel_rfl) (by simp) (AllReadyH.cons (o := Oper.mk (some 10) _ _ _ _ _) rfl (fun Kk hK => ?_) AllReadyH.nil)
  go_simp
  refine (specIdOf_any va b n vc cb nx kd K M _ hr1d hq1d HKn.out (by omega) HL.out HM.out).mono ?_
  rintro e w2 ⟨rfl, b2⟩
  have hb2 : Below w1.heap.size w1 w2 := below_dr b2
  have hP2 := box_step hP hb2
  have hF2 := box_step hF hb2
  refine hK.out _ _ ⟨(box2_cell hP2).1, sA hP2 hF2⟩ (fun hHeld => ?_)
  clear hK Kk
  refine wpAnyH_take (i := 5) (oi := Oper.mk (some 5) _ _ _ _ _) (v := ?v5) rfl (by kernel_rfl) (by kernel_rfl) (by kernel_rfl) (fun _ _ _ h => h) (Or.inl ⟨by rfl, ?y5⟩) hHeld ?r5
  case y5 => (intro W hSW; obtain ⟨q0, q1, q2, q3⟩ := hSW; go_simp; try with_reducible rfl)
  simp only [Act.put, List.setIfInBounds_toArray, List.set_cons_zero, List.set_cons_succ]
  refine wpAnyH_done (by kernel_rfl) ?_ _
  have hv2 := hv1.later hb2
  have hq2 := hq1.below hb2
  have hB2 : Below lo w w2 := (b1.mono hlo).trans (hb2.mono (Nat.le_trans hlo b1.size))
  have hlo2 : lo ≤ w2.heap.size := Nat.le_trans hlo (Nat.le_trans b1.size hb2.size)
  clear hHeld b1 hF hP hv1 hq1 hr1 hr1d hq1d S1 b2 hb2
  obtain ⟨o2, o21, -, -⟩ := box2_cell hP2
  have HV2 := hide hv2
  have HBd := hide hB2
  have HPP := hide hP2
  obtain ⟨r, hr⟩ : ∃ r, idP (K.map It.pl) kd M = r := ⟨_, rfl⟩
  have HR := hide hr
  rw [hr]
  clear hr
  by_cases h0 : 0 < r
  · have HA : Hid (assP (K.map It.pl) nx kd M = (r, nx, K.map It.pl)) := by unfold Hid assP; rw [HR.out, if_pos h0]
    clear hv2 hB2 hP2 hF2
    go_wp2
    go_ret
    exact ⟨by rw [HA.out]; rfl, va, vc, K, by rw [HA.out, HKn.out]; exact HPP.out, by rw [HKn.out]; exact HV2.out, by rw [HA.out], HBd.out⟩
  · by_cases h1 : 40 ≤ n
    · have HA : Hid (assP (K.map It.pl) nx kd M = (0, nx, K.map It.pl)) := by unfold Hid assP; rw [HR.out, if_neg h0, if_pos (Or.inl (by rw [List.length_map, HKn.out]; exact h1))]
      have h1' : (40 : Int) ≤ (n : Int) := by omega
      clear hv2 hB2 hP2 hF2
      go_wp2
      go_ret
      exact ⟨by rw [HA.out]; rfl, va, vc, K, by rw [HA.out, HKn.out]; exact HPP.out, by rw [HKn.out]; exact HV2.out, by rw [HA.out], HBd.out⟩
    · have h1' : ¬ ((40 : Int) ≤ (n : Int)) := by omega
      by_cases h2 : 1000000 ≤ nx
      · have HA : Hid (assP (K.map It.pl) nx kd M = (0, nx, K.map It.pl)) := by unfold Hid assP; rw [HR.out, if_neg h0, if_pos (Or.inr h2)]
        clear hv2 hB2 hP2 hF2
        go_wp2
        go_ret
        exact ⟨by rw [HA.out]; rfl, va, vc, K, by rw [HA.out, HKn.out]; exact HPP.out, by rw [HKn.out]; exact HV2.out, by rw [HA.out], HBd.out⟩
      · have HA : Hid (assP (K.map It.pl) nx kd M = (nx, nx + 1, K.map It.pl ++ [⟨nx, kd, M⟩])) := by unfold Hid assP; rw [HR.out, if_neg h0, if_neg (by rw [List.length_map, HKn.out]; omega)]
        obtain ⟨g, hgs, hcop, hob, hown2, -, hgT⟩ := gi hv2 HKn.out hP2
        have HCop := hide hcop
        have HOb := hide hob
        have HFg : Hid (w.heap.size ≠ g) := by
          rintro e
          rcases hgT with e2 | ⟨cur, e2⟩
          · exact HFp.out (e.trans e2)
          · rw [← e, hF2] at e2
            simp only [Option.some.injEq, Obj.cells.injEq] at e2
            exact absurd e2.2.1 (by decide)
        have hq2d : RdV w2.drew b M := hq2.heap rfl
        have S2 := sA hP2 hF2
        clear hcop hob hgT hv2 HV2 HBd HPP
        go_wp2_with fail
        refine wp_region_held_drew (S := fun W => W.cell? ⟨p, 1, none⟩ = some (.int .i64 nx) ∧ W.cell? ⟨w.heap.size, 0, none⟩ = some (.string kd) ∧ W.cell? ⟨w.heap.size, 1, none⟩ = some (.slice b M.length cb)) (by kernel_rfl) S2 (fun hHeld => ?_)
        refine wpAnyH_take (i := 0) (oi := Oper.mk (some 27) _ _ _ _ _) (v := ?v6) rfl (by kernel_rfl) (by kernel_rfl) (by kernel_rfl) (fun _ _ _ h => h) (Or.inl ⟨by rfl, ?y6⟩) hHeld ?r6
        case y6 => (intro W hSW; obtain ⟨q0, q1, q2⟩ := hSW; go_simp; try with_reducible rfl)
        simp only [Act.put, List.setIfInBounds_toArray, List.set_cons_zero, List.set_cons_succ]
        refine wpAnyH_take (i := 1) (oi := Oper.mk (some 28) _ _ _ _ _) (v := ?v7) rfl (by kernel_rfl) (by kernel_rfl) (by kernel_rfl) (fun _ _ _ h => h) (Or.inl ⟨by rfl, ?y7⟩) hHeld ?r7
        case y7 => (intro W hSW; obtain ⟨q0, q1, q2⟩ := hSW; go_simp; try with_reducible rfl)
        simp only [Act.put, List.setIfInBounds_toArray, List.set_cons_zero, List.set_cons_succ]
        refine wpAnyH_take (i := 2) (oi := Oper.mk (some 29) _ _ _ _ _) (v := ?v8) rfl (by kernel_rfl) (by kernel_rfl) (by kernel_rfl) (fun _ _ _ h => h) (Or.inl ⟨by rfl, ?y8⟩) hHeld ?r8
        case y8 => (intro W hSW; obtain ⟨q0, q1, q2⟩ := hSW; go_simp; try with_reducible rfl)
        simp only [Act.put, List.setIfInBounds_toArray, List.set_cons_zero, List.set_cons_succ]
        refine wpAnyH_take (i := 3) (oi := Oper.mk (some 30) _ _ _ _ _) (v := ?v9) rfl (by kernel_rfl) (by kernel_rfl) (by kernel_rfl) (fun _ _ _ h => h) (Or.inl ⟨by rfl, ?y9⟩) hHeld ?r9
        case y9 => (intro W hSW; obtain ⟨q0, q1, q2⟩ := hSW; go_simp; try with_reducible rfl)
        simp only [Act.put, List.setIfInBounds_toArray, List.set_cons_zero, List.set_cons_succ]
        refine wpAnyH_take (i := 5) (oi := Oper.mk (some 32) _ _ _ _ _) (v := ?v10) rfl (by kernel_rfl) (by kernel_rfl) (by kernel_rfl) (fun _ _ _ h => h) (Or.inl ⟨by rfl, ?y10⟩) hHeld ?r10
        case y10 => (intro W hSW; obtain ⟨q0, q1, q2⟩ := hSW; go_simp; try with_reducible rfl)
        simp only [Act.put, List.setIfInBounds_toArray, List.set_cons_zero, List.set_cons_succ]
        refine wpAnyH_take (i := 6) (oi := Oper.mk (some 33) _ _ _ _ _) (v := ?v11) rfl (by kernel_rfl) (by kernel_rfl) (by kernel_rfl) (fun _ _ _ h => h) (Or.inl ⟨by rfl, ?y11⟩) hHeld ?r11
        case y11 => (intro W hSW; obtain ⟨q0, q1, q2⟩ := hSW; go_simp; try with_reducible rfl)
        simp only [Act.put, List.setIfInBounds_toArray, List.set_cons_zero, List.set_cons_succ]
        refine wpAnyH_take (i := 7) (oi := Oper.mk (some 34) _ _ _ _ _) (v := ?v12) rfl (by kernel_rfl) (by kernel_rfl) (by kernel_rfl) (fun _ _ _ h => h) (Or.inl ⟨by rfl, ?y12⟩) hHeld ?r12
        case y12 => (intro W hSW; obtain ⟨q0, q1, q2⟩ := hSW; go_simp; try with_reducible rfl)
        simp only [Act.put, List.setIfInBounds_toArray, List.set_cons_zero, List.set_cons_succ]
        refine wpAnyH_take (i := 8) (oi := Oper.mk (some 35) _ _ _ _ _) (v := ?v13) rfl (by kernel_rfl) (by kernel_rfl) (by kernel_rfl) (fun _ _ _ h => h) (Or.inl ⟨by rfl, ?y13⟩) hHeld ?r13
        case y13 => (intro W hSW; obtain ⟨q0, q1, q2⟩ := hSW; go_simp; try with_reducible rfl)
        simp only [Act.put, List.setIfInBounds_toArray, List.set_cons_zero, List.set_cons_succ]
        refine wpAnyH_take (i := 9) (oi := Oper.mk (some 36) _ _ _ _ _) (v := ?v14) rfl (by kernel_rfl) (by kernel_rfl) (by kernel_rfl) (fun _ _ _ h => h) (Or.inl ⟨by rfl, ?y14⟩) hHeld ?r14
        case y14 => (intro W hSW; obtain ⟨q0, q1, q2⟩ := hSW; go_simp; try with_reducible rfl)
        simp only [Act.put, List.setIfInBounds_toArray, List.set_cons_zero, List.set_cons_succ]
        refine wpAnyH_ready (rs := [4, 10]) (by kernel_rfl) (by simp) (AllReadyH.cons (o := Oper.mk (some 31) _ _ _ _ _) rfl (fun Kk hK => ?_) (AllReadyH.cons (o := Oper.mk (some 37) _ _ _ _ _) rfl (fun Kk hK => ?_) AllReadyH.nil))
        · go_simp
          refine hK.out _ _ S2 (fun hHeld => ?_)
          clear hK Kk
          refine wpAnyH_ready (rs := [10]) (by kernel_rfl) (by simp) (AllReadyH.cons (o := Oper.mk (some 37) _ _ _ _ _) rfl (fun Kk hK => ?_) AllReadyH.nil)
          go_simp
          refine (l3Copy_any kd b cb M _ hq2d HM.out).mono ?_
          rintro e w3 ⟨a', c', rfl, hnew, b3⟩
          have hbr3 : Below w2.heap.size w2 w3 := below_dr b3
          have hP3 := box_step hP2 hbr3
          have hF3 := box_step hF2 hbr3
          have S3 := sA hP3 hF3
          obtain ⟨o3, -, -, -⟩ := box2_cell hP3
          refine hK.out _ _ S3 (fun hHeld => ?_)
          clear hK Kk
          refine wpAnyH_take (i := 11) (oi := Oper.mk (some 38) _ _ _ _ _) (v := ?v15) rfl (by kernel_rfl) (by kernel_rfl) (by kernel_rfl) (fun _ _ _ h => h) (Or.inl ⟨by rfl, ?y15⟩) hHeld ?r15
          case y15 => (intro W hSW; obtain ⟨q0, q1, q2⟩ := hSW; go_simp; try with_reducible rfl)
          simp only [Act.put, List.setIfInBounds_toArray, List.set_cons_zero, List.set_cons_succ]
          refine wpAnyH_ready (rs := [12]) (by kernel_rfl) (by simp) (AllReadyH.cons (o := Oper.mk (some 39) _ _ _ _ _) rfl (fun Kk hK => ?_) AllReadyH.nil)
          go_simp
          have ba4 := below_al w3 (.cells #[.int .i64 nx, .string kd, .slice a' M.length c'] 54)
          have hbr4 := hbr3.trans (ba4.mono hbr3.size)
          have hnew4 : NewV _ w2.heap.size a' c' M := hnew.later ba4
          have HSrc := hide (srcI w3 ⟨nx, kd, a', c', M⟩)
          have HO4 := hide (ownsRow_below hown2 hbr4)
          have hP4 := box_step hP2 hbr4
          have hF4 := box_step hF2 hbr4
          have S4 := sA hP4 hF4
          obtain ⟨o4, -, -, -⟩ := box2_cell hP4
          have hB4 : Below lo w _ := hB2.trans (hbr4.mono hlo2)
          refine hK.out _ _ S4 (fun hHeld => ?_)
          clear hK Kk
          refine wpAnyH_ready (rs := [13]) (by kernel_rfl) (by simp) (AllReadyH.cons (o := Oper.mk (some 40) _ _ _ _ _) rfl (fun Kk hK => ?_) AllReadyH.nil)
          refine step_append_lies _ rfl (.tmp 31) (.tmp 39) 27 rfl 0 54 i0 (.agg #[.int .i64 0, .string ⟨#[]⟩, .slice none 0 0]) 3 48 Tryd.underlying27 hi hz0 hz1 hz2 rfl (by omega) (.slice va n vc) n (rowOf It.cells K) rfl HO4.out ⟨w3.heap.size, 0, none⟩ 1 1 (It.cells ⟨nx, kd, a', c', M⟩) ?hx rfl HSrc.out (oneI _) (by omega) (by unfold maxLen; omega) (by omega) (Nat.zero_le _) _ rfl ?_
          case hx => simp [Act.eval]
          intro g5 c5 w5 ho5 hg5 hat5 hlt5
          rw [rowI_app] at ho5
          have hlo4 : lo ≤ (w3.alloc (.cells #[.int .i64 nx, .string kd, .slice a' M.length c'] 54)).heap.size := Nat.le_trans hlo2 hbr4.size
          have hB5 : Below lo w w5 := hB4.grown hg5 hlo4 (fun q e => (HOb.out q e).2.1)
          have hP5 := (hg5.block p (Array.getElem?_eq_some_iff.1 hP4).1 (fun e => (HOb.out p e.symm).2.2 rfl)).trans hP4
          have hF5 := (hg5.block w.heap.size (Array.getElem?_eq_some_iff.1 hF4).1 (fun e => by have := (HOb.out _ e.symm).2.1; have := (HOb.out _ e.symm).1; exact HFg.out this)).trans hF4
          have S5 := sA hP5 hF5
          obtain ⟨o5, o51, of0, of1⟩ := box2_cell hP5
          have hg5l : lo ≤ g5 := by
            rcases hat5 with e | e
            · exact (HOb.out g5 e).2.1
            · rw [e]; exact hlo4
          have hg5p : g5 ≠ p := by
            rcases hat5 with e | e
            · exact (HOb.out g5 e).2.2
            · rw [e]; exact Nat.ne_of_gt (Array.getElem?_eq_some_iff.1 hP4).1
          have HC4 := hide ((HCop.out ⟨nx, kd, a', c', M⟩).more (K' := K ++ [⟨nx, kd, a', c', M⟩]) (x := ⟨nx, kd, a', c', M⟩) hbr4 (World.grownBy.refl _ _) (fun i hi => iAt_app_lt (by rw [HKn.out]; exact hi)) (by have e := iAt_app_eq K ⟨nx, kd, a', c', M⟩; rw [HKn.out] at e; exact e) (by have e := iAt_app_eq K ⟨nx, kd, a', c', M⟩; rw [HKn.out] at e; rw [e]) (fun hne => by obtain ⟨q, e, h1, o⟩ := hnew4.own hne; exact ⟨q, e, h1, o⟩) hnew4.2 hlo2 hgs)
          have st := box2_set0 hP5 (.slice (some ⟨g5, 0, none⟩) (n + 1) c5)
          have HC6 := hide (HC4.out.rebase3 (w' := w5.setCell ⟨p, 0, none⟩ (.slice (some ⟨g5, 0, none⟩) (n + 1) c5)) (g' := g5) hP4 (fun q hq hne hnp => (st.2.block q (Nat.lt_of_lt_of_le hq hg5.size) (fun e => hnp (Option.some.inj e))).trans (hg5.block q hq (fun e => hne (HOb.out q e.symm).1))) (by rcases hat5 with e | e; exact .inl (HOb.out g5 e).1; exact .inr (Nat.le_of_eq e.symm)))
          have HO6 := hide (ownsRow_up (ownsRow_sameB (w' := w5.setCell ⟨p, 0, none⟩ (.slice (some ⟨g5, 0, none⟩) (n + 1) c5)) ho5 (fun q e => by have e1 : g5 = q := Option.some.inj e; subst e1; exact st.2.block g5 hlt5 (fun e => hg5p (Option.some.inj e)))) hg5l)
          have hB6 := hB5.grown st.2 (Nat.le_trans hlo4 hg5.size) (fun q e => by have e2 : p = q := Option.some.inj e; rw [← e2]; exact hlop)
          have hF6 := box_gr hF5 st.2 HFp.out
          have hP6 := st.1
          have S6 := sA hP6 hF6
          have HLen : Hid ((K ++ [(⟨nx, kd, a', c', M⟩ : It)]).length = n + 1) := by unfold Hid; rw [List.length_append, HKn.out]; rfl
          refine hK.out _ _ S5 (fun hHeld => ?_)
          clear hK Kk
          refine wpAnyH_take (i := 14) (oi := Oper.mk (some 41) _ _ _ _ _) (v := ?v16) rfl (by kernel_rfl) (by kernel_rfl) (by kernel_rfl) (fun _ _ _ h => h) (Or.inl ⟨by rfl, ?y16⟩) hHeld ?r16
          case y16 => (intro W hSW; obtain ⟨q0, q1, q2⟩ := hSW; go_simp; try with_reducible rfl)
          simp only [Act.put, List.setIfInBounds_toArray, List.set_cons_zero, List.set_cons_succ]
          refine wpAnyH_take (i := 15) (oi := Oper.mk (some 42) _ _ _ _ _) (v := ?v17) rfl (by kernel_rfl) (by kernel_rfl) (by kernel_rfl) (fun _ _ _ h => h) (Or.inl ⟨by rfl, ?y17⟩) hHeld ?r17
          case y17 => (intro W hSW; obtain ⟨q0, q1, q2⟩ := hSW; go_simp; try with_reducible rfl)
          simp only [Act.put, List.setIfInBounds_toArray, List.set_cons_zero, List.set_cons_succ]
          refine wpAnyH_ready (rs := [16]) (by kernel_rfl) (by simp) (AllReadyH.cons (o := Oper.mk none _ _ _ _ _) rfl (fun Kk hK => ?_) AllReadyH.nil)
          go_simp
          refine hK.out _ _ S6 (fun hHeld => ?_)
          clear hK Kk
          refine wpAnyH_done (by kernel_rfl) ?_ _
          have st2 := box2_set1 hP6 (.int .i64 (nx + 1))
          have HP7 := hide st2.1
          have HB7 := hide (hB6.grown st2.2 (Nat.le_trans (Nat.le_trans hlo4 hg5.size) st.2.size) (fun q e => by have e2 : p = q := Option.some.inj e; rw [← e2]; exact hlop))
          have HC7 := hide (HC6.out.rebase3 (w' := (w5.setCell ⟨p, 0, none⟩ (.slice (some ⟨g5, 0, none⟩) (n + 1) c5)).setCell ⟨p, 1, none⟩ (.int .i64 (nx + 1))) (g' := g5) hP6 (fun q hq hne hnp => st2.2.block q hq (fun e => hnp (Option.some.inj e))) (.inl rfl))
          have HO7 := hide (ownsRow_sameB (w' := (w5.setCell ⟨p, 0, none⟩ (.slice (some ⟨g5, 0, none⟩) (n + 1) c5)).setCell ⟨p, 1, none⟩ (.int .i64 (nx + 1))) HO6.out (fun q e => by have e1 : g5 = q := Option.some.inj e; subst e1; exact st2.2.block g5 (Nat.lt_of_lt_of_le hlt5 st.2.size) (fun e => hg5p (Option.some.inj e))))
          obtain ⟨p0, p1, pf0, pf1⟩ := box2_cell hP6
          obtain ⟨m0, m1, -, -⟩ := box2_cell HP7.out
          have HD := hide (Copied.done (cp := c5) (by rw [HLen.out]; exact HC7.out) rfl hg5l (by rw [HLen.out]; exact HO7.out))
          clear S2 S3 S4 S5 S6 st st2 o5 o51 of0 of1 hHeld o4 hP5 hF5 hP4 hF4 hP3 hF3 ho5 hg5 HO4 HSrc hnew4 hB4 hbr4 ba4 o3 hbr3 hnew b3 HC4 HC6 HC7 HCop HO6 HO7 o2 hB5 hB6 hF6 hP2 hF2
          go_wp2
          go_ret
          exact ⟨by rw [HA.out]; rfl, some ⟨g5, 0, none⟩, c5, K ++ [⟨nx, kd, a', c', M⟩], by rw [HA.out, HLen.out]; exact HP7.out, .inr ⟨g5, rfl, HD.out.1⟩, by rw [HA.out, List.map_append]; rfl, HB7.out⟩
        · go_simp
          refine (l3Copy_any kd b cb M _ hq2d HM.out).mono ?_
          rintro e w3 ⟨a', c', rfl, hnew, b3⟩
          have hbr3 : Below w2.heap.size w2 w3 := below_dr b3
          have hP3 := box_step hP2 hbr3
          have hF3 := box_step hF2 hbr3
          have S3 := sA hP3 hF3
          obtain ⟨o3, -, -, -⟩ := box2_cell hP3
          refine hK.out _ _ S3 (fun hHeld => ?_)
          clear hK Kk
          refine wpAnyH_take (i := 11) (oi := Oper.mk (some 38) _ _ _ _ _) (v := ?v18) rfl (by kernel_rfl) (by kernel_rfl) (by kernel_rfl) (fun _ _ _ h => h) (Or.inl ⟨by rfl, ?y18⟩) hHeld ?r18
          case y18 => (intro W hSW; obtain ⟨q0, q1, q2⟩ := hSW; go_simp; try with_reducible rfl)
          simp only [Act.put, List.setIfInBounds_toArray, List.set_cons_zero, List.set_cons_succ]
          refine wpAnyH_ready (rs := [4, 12]) (by kernel_rfl) (by simp) (AllReadyH.cons (o := Oper.mk (some 31) _ _ _ _ _) rfl (fun Kk hK => ?_) (AllReadyH.cons (o := Oper.mk (some 39) _ _ _ _ _) rfl (fun Kk hK => ?_) AllReadyH.nil))
          · go_simp
            refine hK.out _ _ S3 (fun hHeld => ?_)
            clear hK Kk
            refine wpAnyH_ready (rs := [12]) (by kernel_rfl) (by simp) (AllReadyH.cons (o := Oper.mk (some 39) _ _ _ _ _) rfl (fun Kk hK => ?_) AllReadyH.nil)
            go_simp
            have ba4 := below_al w3 (.cells #[.int .i64 nx, .string kd, .slice a' M.length c'] 54)
            have hbr4 := hbr3.trans (ba4.mono hbr3.size)
            have hnew4 : NewV _ w2.heap.size a' c' M := hnew.later ba4
            have HSrc := hide (srcI w3 ⟨nx, kd, a', c', M⟩)
            have HO4 := hide (ownsRow_below hown2 hbr4)
            have hP4 := box_step hP2 hbr4
            have hF4 := box_step hF2 hbr4
            have S4 := sA hP4 hF4
            obtain ⟨o4, -, -, -⟩ := box2_cell hP4
            have hB4 : Below lo w _ := hB2.trans (hbr4.mono hlo2)
            refine hK.out _ _ S4 (fun hHeld => ?_)
            clear hK Kk
            refine wpAnyH_ready (rs := [13]) (by kernel_rfl) (by simp) (AllReadyH.cons (o := Oper.mk (some 40) _ _ _ _ _) rfl (fun Kk hK => ?_) AllReadyH.nil)
            refine step_append_lies _ rfl (.tmp 31) (.tmp 39) 27 rfl 0 54 i0 (.agg #[.int .i64 0, .string ⟨#[]⟩, .slice none 0 0]) 3 48 Tryd.underlying27 hi hz0 hz1 hz2 rfl (by omega) (.slice va n vc) n (rowOf It.cells K) rfl HO4.out ⟨w3.heap.size, 0, none⟩ 1 1 (It.cells ⟨nx, kd, a', c', M⟩) ?hx rfl HSrc.out (oneI _) (by omega) (by unfold maxLen; omega) (by omega) (Nat.zero_le _) _ rfl ?_
            case hx => simp [Act.eval]
            intro g5 c5 w5 ho5 hg5 hat5 hlt5
            rw [rowI_app] at ho5
            have hlo4 : lo ≤ (w3.alloc (.cells #[.int .i64 nx, .string kd, .slice a' M.length c'] 54)).heap.size := Nat.le_trans hlo2 hbr4.size
            have hB5 : Below lo w w5 := hB4.grown hg5 hlo4 (fun q e => (HOb.out q e).2.1)
            have hP5 := (hg5.block p (Array.getElem?_eq_some_iff.1 hP4).1 (fun e => (HOb.out p e.symm).2.2 rfl)).trans hP4
            have hF5 := (hg5.block w.heap.size (Array.getElem?_eq_some_iff.1 hF4).1 (fun e => by have := (HOb.out _ e.symm).2.1; have := (HOb.out _ e.symm).1; exact HFg.out this)).trans hF4
            have S5 := sA hP5 hF5
            obtain ⟨o5, o51, of0, of1⟩ := box2_cell hP5
            have hg5l : lo ≤ g5 := by
              rcases hat5 with e | e
              · exact (HOb.out g5 e).2.1
              · rw [e]; exact hlo4
            have hg5p : g5 ≠ p := by
              rcases hat5 with e | e
              · exact (HOb.out g5 e).2.2
              · rw [e]; exact Nat.ne_of_gt (Array.getElem?_eq_some_iff.1 hP4).1
            have HC4 := hide ((HCop.out ⟨nx, kd, a', c', M⟩).more (K' := K ++ [⟨nx, kd, a', c', M⟩]) (x := ⟨nx, kd, a', c', M⟩) hbr4 (World.grownBy.refl _ _) (fun i hi => iAt_app_lt (by rw [HKn.out]; exact hi)) (by have e := iAt_app_eq K ⟨nx, kd, a', c', M⟩; rw [HKn.out] at e; exact e) (by have e := iAt_app_eq K ⟨nx, kd, a', c', M⟩; rw [HKn.out] at e; rw [e]) (fun hne => by obtain ⟨q, e, h1, o⟩ := hnew4.own hne; exact ⟨q, e, h1, o⟩) hnew4.2 hlo2 hgs)
            have st := box2_set0 hP5 (.slice (some ⟨g5, 0, none⟩) (n + 1) c5)
            have HC6 := hide (HC4.out.rebase3 (w' := w5.setCell ⟨p, 0, none⟩ (.slice (some ⟨g5, 0, none⟩) (n + 1) c5)) (g' := g5) hP4 (fun q hq hne hnp => (st.2.block q (Nat.lt_of_lt_of_le hq hg5.size) (fun e => hnp (Option.some.inj e))).trans (hg5.block q hq (fun e => hne (HOb.out q e.symm).1))) (by rcases hat5 with e | e; exact .inl (HOb.out g5 e).1; exact .inr (Nat.le_of_eq e.symm)))
            have HO6 := hide (ownsRow_up (ownsRow_sameB (w' := w5.setCell ⟨p, 0, none⟩ (.slice (some ⟨g5, 0, none⟩) (n + 1) c5)) ho5 (fun q e => by have e1 : g5 = q := Option.some.inj e; subst e1; exact st.2.block g5 hlt5 (fun e => hg5p (Option.some.inj e)))) hg5l)
            have hB6 := hB5.grown st.2 (Nat.le_trans hlo4 hg5.size) (fun q e => by have e2 : p = q := Option.some.inj e; rw [← e2]; exact hlop)
            have hF6 := box_gr hF5 st.2 HFp.out
            have hP6 := st.1
            have S6 := sA hP6 hF6
            have HLen : Hid ((K ++ [(⟨nx, kd, a', c', M⟩ : It)]).length = n + 1) := by unfold Hid; rw [List.length_append, HKn.out]; rfl
            refine hK.out _ _ S5 (fun hHeld => ?_)
            clear hK Kk
            refine wpAnyH_take (i := 14) (oi := Oper.mk (some 41) _ _ _ _ _) (v := ?v19) rfl (by kernel_rfl) (by kernel_rfl) (by kernel_rfl) (fun _ _ _ h => h) (Or.inl ⟨by rfl, ?y19⟩) hHeld ?r19
            case y19 => (intro W hSW; obtain ⟨q0, q1, q2⟩ := hSW; go_simp; try with_reducible rfl)
            simp only [Act.put, List.setIfInBounds_toArray, List.set_cons_zero, List.set_cons_succ]
            refine wpAnyH_take (i := 15) (oi := Oper.mk (some 42) _ _ _ _ _) (v := ?v20) rfl (by kernel_rfl) (by kernel_rfl) (by kernel_rfl) (fun _ _ _ h => h) (Or.inl ⟨by rfl, ?y20⟩) hHeld ?r20
            case y20 => (intro W hSW; obtain ⟨q0, q1, q2⟩ := hSW; go_simp; try with_reducible rfl)
            simp only [Act.put, List.setIfInBounds_toArray, List.set_cons_zero, List.set_cons_succ]
            refine wpAnyH_ready (rs := [16]) (by kernel_rfl) (by simp) (AllReadyH.cons (o := Oper.mk none _ _ _ _ _) rfl (fun Kk hK => ?_) AllReadyH.nil)
            go_simp
            refine hK.out _ _ S6 (fun hHeld => ?_)
            clear hK Kk
            refine wpAnyH_done (by kernel_rfl) ?_ _
            have st2 := box2_set1 hP6 (.int .i64 (nx + 1))
            have HP7 := hide st2.1
            have HB7 := hide (hB6.grown st2.2 (Nat.le_trans (Nat.le_trans hlo4 hg5.size) st.2.size) (fun q e => by have e2 : p = q := Option.some.inj e; rw [← e2]; exact hlop))
            have HC7 := hide (HC6.out.rebase3 (w' := (w5.setCell ⟨p, 0, none⟩ (.slice (some ⟨g5, 0, none⟩) (n + 1) c5)).setCell ⟨p, 1, none⟩ (.int .i64 (nx + 1))) (g' := g5) hP6 (fun q hq hne hnp => st2.2.block q hq (fun e => hnp (Option.some.inj e))) (.inl rfl))
            have HO7 := hide (ownsRow_sameB (w' := (w5.setCell ⟨p, 0, none⟩ (.slice (some ⟨g5, 0, none⟩) (n + 1) c5)).setCell ⟨p, 1, none⟩ (.int .i64 (nx + 1))) HO6.out (fun q e => by have e1 : g5 = q := Option.some.inj e; subst e1; exact st2.2.block g5 (Nat.lt_of_lt_of_le hlt5 st.2.size) (fun e => hg5p (Option.some.inj e))))
            obtain ⟨p0, p1, pf0, pf1⟩ := box2_cell hP6
            obtain ⟨m0, m1, -, -⟩ := box2_cell HP7.out
            have HD := hide (Copied.done (cp := c5) (by rw [HLen.out]; exact HC7.out) rfl hg5l (by rw [HLen.out]; exact HO7.out))
            clear S2 S3 S4 S5 S6 st st2 o5 o51 of0 of1 hHeld o4 hP5 hF5 hP4 hF4 hP3 hF3 ho5 hg5 HO4 HSrc hnew4 hB4 hbr4 ba4 o3 hbr3 hnew b3 HC4 HC6 HC7 HCop HO6 HO7 o2 hB5 hB6 hF6 hP2 hF2
            go_wp2
            go_ret
            exact ⟨by rw [HA.out]; rfl, some ⟨g5, 0, none⟩, c5, K ++ [⟨nx, kd, a', c', M⟩], by rw [HA.out, HLen.out]; exact HP7.out, .inr ⟨g5, rfl, HD.out.1⟩, by rw [HA.out, List.map_append]; rfl, HB7.out⟩
          · go_simp
            have ba4 := below_al w3 (.cells #[.int .i64 nx, .string kd, .slice a' M.length c'] 54)
            have hbr4 := hbr3.trans (ba4.mono hbr3.size)
            have hnew4 : NewV _ w2.heap.size a' c' M := hnew.later ba4
            have HSrc := hide (srcI w3 ⟨nx, kd, a', c', M⟩)
            have HO4 := hide (ownsRow_below hown2 hbr4)
            have hP4 := box_step hP2 hbr4
            have hF4 := box_step hF2 hbr4
            have S4 := sA hP4 hF4
            obtain ⟨o4, -, -, -⟩ := box2_cell hP4
            have hB4 : Below lo w _ := hB2.trans (hbr4.mono hlo2)
            refine hK.out _ _ S4 (fun hHeld => ?_)
            clear hK Kk
            refine wpAnyH_ready (rs := [4]) (by kernel_rfl) (by simp) (AllReadyH.cons (o := Oper.mk (some 31) _ _ _ _ _) rfl (fun Kk hK => ?_) AllReadyH.nil)
            go_simp
            refine hK.out _ _ S4 (fun hHeld => ?_)
            clear hK Kk
            refine wpAnyH_ready (rs := [13]) (by kernel_rfl) (by simp) (AllReadyH.cons (o := Oper.mk (some 40) _ _ _ _ _) rfl (fun Kk hK => ?_) AllReadyH.nil)
            refine step_append_lies _ rfl (.tmp 31) (.tmp 39) 27 rfl 0 54 i0 (.agg #[.int .i64 0, .string ⟨#[]⟩, .slice none 0 0]) 3 48 Tryd.underlying27 hi hz0 hz1 hz2 rfl (by omega) (.slice va n vc) n (rowOf It.cells K) rfl HO4.out ⟨w3.heap.size, 0, none⟩ 1 1 (It.cells ⟨nx, kd, a', c', M⟩) ?hx rfl HSrc.out (oneI _) (by omega) (by unfold maxLen; omega) (by omega) (Nat.zero_le _) _ rfl ?_
            case hx => simp [Act.eval]
            intro g5 c5 w5 ho5 hg5 hat5 hlt5
            rw [rowI_app] at ho5
            have hlo4 : lo ≤ (w3.alloc (.cells #[.int .i64 nx, .string kd, .slice a' M.length c'] 54)).heap.size := Nat.le_trans hlo2 hbr4.size
            have hB5 : Below lo w w5 := hB4.grown hg5 hlo4 (fun q e => (HOb.out q e).2.1)
            have hP5 := (hg5.block p (Array.getElem?_eq_some_iff.1 hP4).1 (fun e => (HOb.out p e.symm).2.2 rfl)).trans hP4
            have hF5 := (hg5.block w.heap.size (Array.getElem?_eq_some_iff.1 hF4).1 (fun e => by have := (HOb.out _ e.symm).2.1; have := (HOb.out _ e.symm).1; exact HFg.out this)).trans hF4
            have S5 := sA hP5 hF5
            obtain ⟨o5, o51, of0, of1⟩ := box2_cell hP5
            have hg5l : lo ≤ g5 := by
              rcases hat5 with e | e
              · exact (HOb.out g5 e).2.1
              · rw [e]; exact hlo4
            have hg5p : g5 ≠ p := by
              rcases hat5 with e | e
              · exact (HOb.out g5 e).2.2
              · rw [e]; exact Nat.ne_of_gt (Array.getElem?_eq_some_iff.1 hP4).1
            have HC4 := hide ((HCop.out ⟨nx, kd, a', c', M⟩).more (K' := K ++ [⟨nx, kd, a', c', M⟩]) (x := ⟨nx, kd, a', c', M⟩) hbr4 (World.grownBy.refl _ _) (fun i hi => iAt_app_lt (by rw [HKn.out]; exact hi)) (by have e := iAt_app_eq K ⟨nx, kd, a', c', M⟩; rw [HKn.out] at e; exact e) (by have e := iAt_app_eq K ⟨nx, kd, a', c', M⟩; rw [HKn.out] at e; rw [e]) (fun hne => by obtain ⟨q, e, h1, o⟩ := hnew4.own hne; exact ⟨q, e, h1, o⟩) hnew4.2 hlo2 hgs)
            have st := box2_set0 hP5 (.slice (some ⟨g5, 0, none⟩) (n + 1) c5)
            have HC6 := hide (HC4.out.rebase3 (w' := w5.setCell ⟨p, 0, none⟩ (.slice (some ⟨g5, 0, none⟩) (n + 1) c5)) (g' := g5) hP4 (fun q hq hne hnp => (st.2.block q (Nat.lt_of_lt_of_le hq hg5.size) (fun e => hnp (Option.some.inj e))).trans (hg5.block q hq (fun e => hne (HOb.out q e.symm).1))) (by rcases hat5 with e | e; exact .inl (HOb.out g5 e).1; exact .inr (Nat.le_of_eq e.symm)))
            have HO6 := hide (ownsRow_up (ownsRow_sameB (w' := w5.setCell ⟨p, 0, none⟩ (.slice (some ⟨g5, 0, none⟩) (n + 1) c5)) ho5 (fun q e => by have e1 : g5 = q := Option.some.inj e; subst e1; exact st.2.block g5 hlt5 (fun e => hg5p (Option.some.inj e)))) hg5l)
            have hB6 := hB5.grown st.2 (Nat.le_trans hlo4 hg5.size) (fun q e => by have e2 : p = q := Option.some.inj e; rw [← e2]; exact hlop)
            have hF6 := box_gr hF5 st.2 HFp.out
            have hP6 := st.1
            have S6 := sA hP6 hF6
            have HLen : Hid ((K ++ [(⟨nx, kd, a', c', M⟩ : It)]).length = n + 1) := by unfold Hid; rw [List.length_append, HKn.out]; rfl
            refine hK.out _ _ S5 (fun hHeld => ?_)
            clear hK Kk
            refine wpAnyH_take (i := 14) (oi := Oper.mk (some 41) _ _ _ _ _) (v := ?v21) rfl (by kernel_rfl) (by kernel_rfl) (by kernel_rfl) (fun _ _ _ h => h) (Or.inl ⟨by rfl, ?y21⟩) hHeld ?r21
            case y21 => (intro W hSW; obtain ⟨q0, q1, q2⟩ := hSW; go_simp; try with_reducible rfl)
            simp only [Act.put, List.setIfInBounds_toArray, List.set_cons_zero, List.set_cons_succ]
            refine wpAnyH_take (i := 15) (oi := Oper.mk (some 42) _ _ _ _ _) (v := ?v22) rfl (by kernel_rfl) (by kernel_rfl) (by kernel_rfl) (fun _ _ _ h => h) (Or.inl ⟨by rfl, ?y22⟩) hHeld ?r22
            case y22 => (intro W hSW; obtain ⟨q0, q1, q2⟩ := hSW; go_simp; try with_reducible rfl)
            simp only [Act.put, List.setIfInBounds_toArray, List.set_cons_zero, List.set_cons_succ]
            refine wpAnyH_ready (rs := [16]) (by kernel_rfl) (by simp) (AllReadyH.cons (o := Oper.mk none _ _ _ _ _) rfl (fun Kk hK => ?_) AllReadyH.nil)
            go_simp
            refine hK.out _ _ S6 (fun hHeld => ?_)
            clear hK Kk
            refine wpAnyH_done (by kernel_rfl) ?_ _
            have st2 := box2_set1 hP6 (.int .i64 (nx + 1))
            have HP7 := hide st2.1
            have HB7 := hide (hB6.grown st2.2 (Nat.le_trans (Nat.le_trans hlo4 hg5.size) st.2.size) (fun q e => by have e2 : p = q := Option.some.inj e; rw [← e2]; exact hlop))
            have HC7 := hide (HC6.out.rebase3 (w' := (w5.setCell ⟨p, 0, none⟩ (.slice (some ⟨g5, 0, none⟩) (n + 1) c5)).setCell ⟨p, 1, none⟩ (.int .i64 (nx + 1))) (g' := g5) hP6 (fun q hq hne hnp => st2.2.block q hq (fun e => hnp (Option.some.inj e))) (.inl rfl))
            have HO7 := hide (ownsRow_sameB (w' := (w5.setCell ⟨p, 0, none⟩ (.slice (some ⟨g5, 0, none⟩) (n + 1) c5)).setCell ⟨p, 1, none⟩ (.int .i64 (nx + 1))) HO6.out (fun q e => by have e1 : g5 = q := Option.some.inj e; subst e1; exact st2.2.block g5 (Nat.lt_of_lt_of_le hlt5 st.2.size) (fun e => hg5p (Option.some.inj e))))
            obtain ⟨p0, p1, pf0, pf1⟩ := box2_cell hP6
            obtain ⟨m0, m1, -, -⟩ := box2_cell HP7.out
            have HD := hide (Copied.done (cp := c5) (by rw [HLen.out]; exact HC7.out) rfl hg5l (by rw [HLen.out]; exact HO7.out))
            clear S2 S3 S4 S5 S6 st st2 o5 o51 of0 of1 hHeld o4 hP5 hF5 hP4 hF4 hP3 hF3 ho5 hg5 HO4 HSrc hnew4 hB4 hbr4 ba4 o3 hbr3 hnew b3 HC4 HC6 HC7 HCop HO6 HO7 o2 hB5 hB6 hF6 hP2 hF2
            go_wp2
            go_ret
            exact ⟨by rw [HA.out]; rfl, some ⟨g5, 0, none⟩, c5, K ++ [⟨nx, kd, a', c', M⟩], by rw [HA.out, HLen.out]; exact HP7.out, .inr ⟨g5, rfl, HD.out.1⟩, by rw [HA.out, List.map_append]; rfl, HB7.out⟩
end Go.Proofs.YtaflokfgbmlmaadDoor
/-
  A store's items, behind a write into the store's own block alone.
-/
namespace Go.Proofs.YtaflokfgbmlmaadDoor
open Go.RowKit
set_option linter.unusedVariables false

theorem HoldsI.other {w w' : World} {lo g cp p : Nat} {K : List It} {cs : Array Value} (h : HoldsI w lo g cp K) (hp : w.heap[p]? = some (.cells cs 29 (0, 0))) (hk : ∀ q, q < w.heap.size → q ≠ p → w'.heap[q]? = w.heap[q]?) : HoldsI w' lo g cp K := by
  refine ⟨ownsRow_sameB h.own (fun k e => ?_), h.low, fun i hi hne => ?_, h.apart, h.lies⟩
  · have e2 : g = k := Option.some.inj e
    subst e2
    exact hk g h.lt (fun e3 => row_ne_box h.own hp (by decide) e3.symm)
  · obtain ⟨q, e, h1, h2, o⟩ := h.vals i hi hne
    have hne2 : q ≠ p := fun e3 => row_ne_box o hp (by decide) e3.symm
    refine ⟨q, e, h1, h2, ownsRow_sameB o (fun k e4 => ?_)⟩
    have e5 : q = k := Option.some.inj e4
    rw [← e5]
    exact hk q o.lt hne2
theorem HV.grown {w w' : World} {lo n vc q : Nat} {va : Option Addr} {K : List It} (h : HV w lo n va vc K) (hg : w.grownBy w' (some q)) (hq : q < lo) : HV w' lo n va vc K :=
  h.imp id (fun ⟨g, e, o⟩ => ⟨g, e, o.grown hg hq⟩)
theorem HV.weaken {w : World} {lo lo' n vc : Nat} {va : Option Addr} {K : List It} (h : HV w lo n va vc K) (hl : lo' ≤ lo) : HV w lo' n va vc K :=
  h.imp id (fun ⟨g, e, o⟩ => ⟨g, e, o.weaken hl⟩)
theorem HV.rd {w : World} {lo n vc : Nat} {va : Option Addr} {K : List It} (h : HV w lo n va vc K) : RdI w va K := by
  rcases h with ⟨-, rfl, -, -⟩ | ⟨g, rfl, o⟩
  · exact RdI.nil _ _
  · exact o.rd
end Go.Proofs.YtaflokfgbmlmaadDoor
/-
  What allBytes answers of a function value whose answers are known: allB, in the world as it was.
-/
namespace Go.Proofs.YtaflokfgbmlmaadDoor
open Go.RowKit
set_option linter.unusedVariables false

def allB (P : Int → Bool) (s : ByteArray) : Bool := (List.range s.size).all (fun i => P (bat s i))
theorem allB_no {P : Int → Bool} {s : ByteArray} {i : Nat} (h : i < s.size) (hb : P (bat s i) = false) : allB P s = false := by
  unfold allB
  rw [← Bool.not_eq_true, List.all_eq_true]
  intro h2
  have := h2 i (by simpa using h)
  rw [hb] at this
  cases this
theorem allB_yes {P : Int → Bool} {s : ByteArray} (h : ∀ i, i < s.size → P (bat s i) = true) : allB P s = true := by
  unfold allB
  rw [List.all_eq_true]
  intro i hi
  exact h i (by simpa using hi)

set_option maxHeartbeats 800000 in
theorem allBytesWord_any (s : ByteArray) (w : World) (hs : s.size ≤ maxLen) :
    Calls Tryd.prog 94 #[.string s, .func (.func 95) #[] #[]] w fun e w' => e = .returned (.bool (allB wordB s)) ∧ w' = w := by
  unfold maxLen at hs
  go_enter Tryd.func94, Tryd.ntmps94
  go_wp2
  go_loop [8] (fun i => ∃ k : Nat, k ≤ s.size ∧ i = .int .i64 k ∧ ∀ j, j < k → wordB (bat s j) = true) (fun i => s.size - (intOf i).toNat)
  case atStart => exact ⟨0, Nat.zero_le _, rfl, fun j hj => absurd hj (Nat.not_lt_zero _)⟩
  case round =>
    obtain ⟨k, hk, rfl, hall⟩ := hrel
    have HA := hide hall
    clear hall
    by_cases hlt : k < s.size
    · have HB := hide (bat_in hlt)
      cases hw : wordB ((s[k]'hlt).toNat : Int)
      · have HN := hide (allB_no (P := wordB) hlt (by rw [HB.out, hw]))
        go_wp2_with (go_at_call 95; refine (isWordByte_any _ _).mono ?_; rintro e w' ⟨rfl, rfl⟩)
        go_ret
        exact ⟨ret_bool HN.out.symm, rfl⟩
      · have HW := hide hw
        go_wp2_with (go_at_call 95; refine (isWordByte_any _ _).mono ?_; rintro e w' ⟨rfl, rfl⟩)
        go_round
        case rel => exact ⟨k + 1, by omega, by go_num, fun j hj => by
          by_cases hjk : j = k
          · rw [hjk, HB.out, HW.out]
          · exact HA.out j (by omega)⟩
        case measure => simp [intOf]; omega
    · have HN := hide (allB_yes (P := wordB) fun i hi => HA.out i (by omega))
      go_wp2
      go_ret
      exact ⟨ret_bool HN.out.symm, rfl⟩
end Go.Proofs.YtaflokfgbmlmaadDoor
/-
  What the functions on a value's text answer, the tested one and the model alike: textB of the text, in the world as it was.
-/
namespace Go.Proofs.YtaflokfgbmlmaadDoor
open Go.RowKit
set_option linter.unusedVariables false

/-- may a text be a value's? -/
def textB (s : ByteArray) : Bool := (List.range s.size).all (fun i => wordB (bat s i)) && decide (s.size ≤ 20)

theorem textB_no {s : ByteArray} {i : Nat} (h : i < s.size) (hb : wordB (bat s i) = false) : textB s = false := by
  unfold textB
  rw [Bool.and_eq_false_iff]
  left
  rw [← Bool.not_eq_true, List.all_eq_true]
  intro h2
  have := h2 i (by simpa using h)
  rw [hb] at this
  cases this
theorem textB_all {s : ByteArray} (h : ∀ i, i < s.size → wordB (bat s i) = true) : textB s = decide (s.size ≤ 20) := by
  unfold textB
  have : (List.range s.size).all (fun i => wordB (bat s i)) = true := by
    rw [List.all_eq_true]; intro i hi; exact h i (by simpa using hi)
  rw [this]; simp
theorem textB_size {s : ByteArray} (h : ¬ s.size ≤ 20) : textB s = false := by
  unfold textB
  rw [Bool.and_eq_false_iff]
  right
  simpa using h
theorem textB_le {s : ByteArray} (h : textB s = true) : s.size ≤ 20 := by
  by_cases h2 : s.size ≤ 20
  · exact h2
  · rw [textB_size h2] at h; cases h

set_option maxHeartbeats 800000 in
theorem l2Plain_any (s : ByteArray) (w : World) (hs : s.size ≤ maxLen) :
    Calls Tryd.prog 92 #[.string s] w fun e w' => e = .returned (.bool (textB s)) ∧ w' = w := by
  unfold maxLen at hs
  go_enter Tryd.func92, Tryd.ntmps92
  go_wp2
  go_loop [3] (fun i => ∃ k : Nat, k ≤ s.size ∧ i = .int .i64 k ∧ ∀ j, j < k → wordB (bat s j) = true) (fun i => s.size - (intOf i).toNat)
  case atStart => exact ⟨0, Nat.zero_le _, rfl, fun j hj => absurd hj (Nat.not_lt_zero _)⟩
  case round =>
    obtain ⟨k, hk, rfl, hall⟩ := hrel
    have HA := hide hall
    clear hall
    by_cases hlt : k < s.size
    · have hlb : 0 ≤ ((s[k]'hlt).toNat : Int) := by omega
      have hub : ((s[k]'hlt).toNat : Int) ≤ 255 := by have := (s[k]'hlt).toNat_lt; omega
      have HB := hide (bat_in hlt)
      cases hw : wordB ((s[k]'hlt).toNat : Int)
      · have HN := hide (textB_no hlt (by rw [HB.out, hw]))
        go_wp2_with (go_at_call 80; refine (l1Letter_any _ _ (by omega) (by omega)).mono ?_; rintro e w' ⟨rfl, rfl⟩)
        go_ret
        exact ⟨ret_bool HN.out.symm, rfl⟩
      · have HW := hide hw
        go_wp2_with (go_at_call 80; refine (l1Letter_any _ _ (by omega) (by omega)).mono ?_; rintro e w' ⟨rfl, rfl⟩)
        go_round
        case rel => exact ⟨k + 1, by omega, by go_num, fun j hj => by
          by_cases hjk : j = k
          · rw [hjk, HB.out, HW.out]
          · exact HA.out j (by omega)⟩
        case measure => simp [intOf]; omega
    · have HN := hide (textB_all fun i hi => HA.out i (by omega))
      go_wp2
      go_ret
      exact ⟨ret_bool (by rw [HN.out]; simp; omega), rfl⟩

theorem textB_tail {s : ByteArray} (h : s.size ≤ 20) : textB s = allB wordB s := by
  unfold textB allB
  rw [decide_eq_true h, Bool.and_true]

set_option maxHeartbeats 800000 in
theorem isTextOfVal_any (s : ByteArray) (w : World) (hs : s.size ≤ maxLen) :
    Calls Tryd.prog 96 #[.string s] w fun e w' => e = .returned (.bool (textB s)) ∧ w' = w := by
  have hs2 := hs
  unfold maxLen at hs2
  by_cases h2 : s.size ≤ 20
  · have HN := hide (textB_tail h2)
    go_enter Tryd.func96, Tryd.ntmps96
    go_wp2_with fail
    refine (allBytesWord_any _ _ hs).mono ?_
    rintro e w' ⟨rfl, rfl⟩
    generalize allB wordB s = r at HN ⊢
    go_wp2
    go_ret
    exact ⟨ret_bool HN.out.symm, rfl⟩
  · rw [textB_size h2]
    go_enter Tryd.func96, Tryd.ntmps96
    go_wp2
    go_ret
    exact ⟨rfl, rfl⟩
end Go.Proofs.YtaflokfgbmlmaadDoor
/-
  Small facts on empty texts and on boxes that a call has made.
-/
namespace Go.Proofs.YtaflokfgbmlmaadDoor
open Go.RowKit
set_option linter.unusedVariables false

theorem empty_of_size {S : ByteArray} (h : S.size = 0) : S = ⟨#[]⟩ := by
  cases S with
  | mk d =>
    have : d.size = 0 := h
    rw [Array.size_eq_zero_iff] at this
    rw [this]
theorem bcell {W w1 : World} (hb : Below W.heap.size W w1) : (∀ b o, b < W.heap.size → w1.cell? ⟨b, o, none⟩ = W.cell? ⟨b, o, none⟩) ∧ (∀ b o, b < W.heap.size → w1.frozen? ⟨b, o, none⟩ = W.frozen? ⟨b, o, none⟩) :=
  ⟨fun b o h => hb.cell (p := ⟨b, o, none⟩) h, fun b o h => hb.frozen (p := ⟨b, o, none⟩) h⟩
theorem below_box {w w' : World} {o : Obj} (hb : Below (w.alloc o).drew.heap.size (w.alloc o).drew w') : Below w.heap.size w w' :=
  (((Below.refl w.heap.size w).alloc (Nat.le_refl _) o).drew).trans (hb.mono (by simp))
theorem below_boxN (w : World) (o : Obj) (n : Nat) : Below w.heap.size w ((w.alloc o).drewN n) :=
  ((Below.refl w.heap.size w).alloc (Nat.le_refl _) o).trans ⟨rfl, rfl, rfl, Nat.le_refl _, fun _ _ => rfl⟩
theorem isEmpty_false {S : ByteArray} (h : S.size ≠ 0) : S.toList.isEmpty = false := by
  rw [ByteArray.toList_eq]
  cases hd : S.data.toList with
  | nil =>
    exfalso; apply h
    have e : S.data.toList.length = S.size := by rw [Array.length_toList]; rfl
    rw [hd] at e; simpa using e.symm
  | cons a r => rfl
end Go.Proofs.YtaflokfgbmlmaadDoor
/-
  What the functions on values answer: valB of the value, the tested ones and the model alike; nothing that was there has turned.
-/
namespace Go.Proofs.YtaflokfgbmlmaadDoor
open Go.RowKit
set_option linter.unusedVariables false

/-- is a value right? -/
def valB (K N : Int) (S : ByteArray) : Bool := (K == 1 && inB N (-1000000000) 1000000000 && decide (S.size = 0)) || (K == 2 && textB S && N == 0)
theorem valB_num {N : Int} (S : ByteArray) (h : -1000000000 ≤ N ∧ N ≤ 1000000000) : valB 1 N S = decide (S.size = 0) := by
  simp [valB, inB_t h]
theorem valB_out {N : Int} (S : ByteArray) (h : ¬ (-1000000000 ≤ N ∧ N ≤ 1000000000)) : valB 1 N S = false := by
  simp [valB, inB_f h]
theorem valB_text (N : Int) (S : ByteArray) : valB 2 N S = (textB S && N == 0) := by
  simp [valB]
theorem valB_none {K : Int} (N : Int) (S : ByteArray) (h1 : K ≠ 1) (h2 : K ≠ 2) : valB K N S = false := by
  simp [valB, h1, h2]

set_option maxHeartbeats 400000 in
theorem asValNum_any (n : Int) (w : World) :
    Calls Tryd.prog 135 #[.int .i64 n] w fun e w' => e = .returned (.agg #[.int .i64 1, .int .i64 n, .string ⟨#[]⟩]) ∧ Below w.heap.size w w' := by
  go_enter Tryd.func135, Tryd.ntmps135
  go_wp2
  go_returns
  exact ⟨rfl, by go_grown⟩

set_option maxHeartbeats 400000 in
theorem asValText_any (s : ByteArray) (w : World) :
    Calls Tryd.prog 136 #[.string s] w fun e w' => e = .returned (.agg #[.int .i64 2, .int .i64 0, .string s]) ∧ Below w.heap.size w w' := by
  go_enter Tryd.func136, Tryd.ntmps136
  go_wp2
  go_returns
  exact ⟨rfl, by go_grown⟩

/-- what spokenOf answers -/
def spokV (K N : Int) (S : ByteArray) : Value :=
  if valB K N S then (if K = 1 then .iface 127 (.int .i64 N) else .iface 128 (.string S)) else .nilIface
theorem spokV_one {N : Int} {S : ByteArray} (h : valB 1 N S = true) : spokV 1 N S = .iface 127 (.int .i64 N) := by simp [spokV, h]
theorem spokV_two {N : Int} {S : ByteArray} (h : valB 2 N S = true) : spokV 2 N S = .iface 128 (.string S) := by simp [spokV, h]
theorem spokV_no {K N : Int} {S : ByteArray} (h : valB K N S = false) : spokV K N S = .nilIface := by simp [spokV, h]

set_option maxHeartbeats 1600000 in
theorem spokenOf_any (K N : Int) (S : ByteArray) (w : World) (hs : S.size ≤ maxLen) :
    Calls Tryd.prog 85 #[.agg #[.int .i64 K, .int .i64 N, .string S]] w fun e w' =>
      e = .returned (spokV K N S) ∧ Below w.heap.size w w' := by
  by_cases hK : K = 1
  · subst hK
    by_cases h1 : -1000000000 ≤ N
    · by_cases h2 : N ≤ 1000000000
      · by_cases hS : S.size = 0
        · rw [spokV_one (by rw [valB_num S ⟨h1, h2⟩]; simpa using hS)]
          obtain rfl := empty_of_size hS
          clear hS
          go_enter Tryd.func85, Tryd.ntmps85
          go_wp2
          go_region_with (go_at_call 135; refine (asValNum_any _ _).mono ?_; rintro e w' ⟨rfl, hb⟩; obtain ⟨hc, hf⟩ := bcell hb)
          all_goals go_wp2
          all_goals go_ret
          all_goals exact ⟨rfl, below_box hb⟩
        · rw [spokV_no (by rw [valB_num S ⟨h1, h2⟩]; simpa using hS)]
          have hE := isEmpty_false hS
          clear hS
          go_enter Tryd.func85, Tryd.ntmps85
          go_wp2
          go_region_with (go_at_call 135; refine (asValNum_any _ _).mono ?_; rintro e w' ⟨rfl, hb⟩; obtain ⟨hc, hf⟩ := bcell hb)
          all_goals go_wp2
          all_goals go_ret
          all_goals exact ⟨rfl, below_box hb⟩
      · rw [spokV_no (valB_out S (by omega))]
        go_enter Tryd.func85, Tryd.ntmps85
        go_wp2
        go_quiet (fail)
        go_wp2
        go_ret
        exact ⟨rfl, below_boxN _ _ _⟩
    · rw [spokV_no (valB_out S (by omega))]
      go_enter Tryd.func85, Tryd.ntmps85
      go_wp2
      go_quiet (fail)
      go_wp2
      go_ret
      exact ⟨rfl, below_boxN _ _ _⟩
  · have hk1 : (K == 1) = false := by simpa using hK
    by_cases hK2 : K = 2
    · subst hK2
      clear hk1 hK
      cases ht : textB S
      · rw [spokV_no (by rw [valB_text, ht]; rfl)]
        go_enter Tryd.func85, Tryd.ntmps85
        go_wp2_with (go_at_call 96; refine (isTextOfVal_any _ _ hs).mono ?_; rintro e w' ⟨rfl, rfl⟩)
        go_quiet (fail)
        go_wp2
        go_ret
        exact ⟨rfl, below_boxN _ _ _⟩
      · by_cases hN : N = 0
        · rw [spokV_two (by rw [valB_text, ht, hN]; rfl)]
          subst hN
          go_enter Tryd.func85, Tryd.ntmps85
          go_wp2_with (go_at_call 96; refine (isTextOfVal_any _ _ hs).mono ?_; rintro e w' ⟨rfl, rfl⟩)
          go_region_with (go_at_call 136; refine (asValText_any _ _).mono ?_; rintro e w' ⟨rfl, hb⟩; obtain ⟨hc, hf⟩ := bcell hb)
          all_goals go_wp2
          all_goals go_ret
          all_goals exact ⟨rfl, below_box hb⟩
        · rw [spokV_no (by rw [valB_text, ht]; simpa using hN)]
          have hn0 : ((0 : Int) == N) = false := by simp; omega
          clear hN
          go_enter Tryd.func85, Tryd.ntmps85
          go_wp2_with (go_at_call 96; refine (isTextOfVal_any _ _ hs).mono ?_; rintro e w' ⟨rfl, rfl⟩)
          go_region_with (go_at_call 136; refine (asValText_any _ _).mono ?_; rintro e w' ⟨rfl, hb⟩; obtain ⟨hc, hf⟩ := bcell hb)
          all_goals go_wp2
          all_goals go_ret
          all_goals exact ⟨rfl, below_box hb⟩
    · rw [spokV_no (valB_none N S hK hK2)]
      have hk2 : (K == 2) = false := by simpa using hK2
      clear hK hK2
      go_enter Tryd.func85, Tryd.ntmps85
      go_wp2
      go_quiet (fail)
      go_wp2
      go_ret
      exact ⟨rfl, below_boxN _ _ _⟩

theorem spokV_nil (K N : Int) (S : ByteArray) : (valB K N S = true ∧ ∃ t v, spokV K N S = .iface t v) ∨ (valB K N S = false ∧ spokV K N S = .nilIface) := by
  cases h : valB K N S
  · exact .inr ⟨rfl, spokV_no h⟩
  · left
    refine ⟨rfl, ?_⟩
    unfold spokV
    rw [h]
    by_cases hk : K = 1
    · exact ⟨_, _, by rw [if_pos rfl, if_pos hk]⟩
    · exact ⟨_, _, by rw [if_pos rfl, if_neg hk]⟩

set_option maxHeartbeats 1600000 in
theorem implValOk_any (K N : Int) (S : ByteArray) (w : World) (hs : S.size ≤ maxLen) :
    Calls Tryd.prog 67 #[.agg #[.int .i64 K, .int .i64 N, .string S]] w fun e w' =>
      e = .returned (.bool (valB K N S)) ∧ Below w.heap.size w w' := by
  go_enter Tryd.func67, Tryd.ntmps67
  go_wp2_with fail
  refine (spokenOf_any K N S _ hs).mono ?_
  rintro e w1 ⟨rfl, hb⟩
  have hb1 : Below w.heap.size w w1 := ((Below.refl w.heap.size w).alloc (Nat.le_refl _) _).trans (hb.mono (by simp))
  clear hb
  rcases spokV_nil K N S with ⟨h1, t, v, h2⟩ | ⟨h1, h2⟩
  · rw [h2]
    have H1 := hide h1
    clear h1 h2
    go_wp2
    go_ret
    exact ⟨ret_bool H1.out.symm, hb1⟩
  · rw [h2]
    have H1 := hide h1
    clear h1 h2
    go_wp2
    go_ret
    exact ⟨ret_bool H1.out.symm, hb1⟩

set_option maxHeartbeats 1600000 in
theorem specValOk_any (K N : Int) (S : ByteArray) (w : World) (hs : S.size ≤ maxLen) :
    Calls Tryd.prog 81 #[.agg #[.int .i64 K, .int .i64 N, .string S]] w fun e w' =>
      e = .returned (.bool (valB K N S)) ∧ w.grownBy w' none := by
  by_cases hK : K = 1
  · subst hK
    cases hi : inB N (-1000000000) 1000000000
    · have HV : Hid (valB 1 N S = false) := by unfold Hid valB; rw [hi]; simp
      go_enter Tryd.func81, Tryd.ntmps81
      go_wp2_with (go_at_call 30; refine (l1In_any _ _ _ _).mono ?_; rintro e w' ⟨rfl, rfl⟩)
      go_ret
      exact ⟨ret_bool HV.out.symm, World.grownBy_alloc _ _ _⟩
    · by_cases hS : S.size = 0
      · obtain rfl := empty_of_size hS
        have HV : Hid (valB 1 N ⟨#[]⟩ = true) := by unfold Hid valB; rw [hi]; rfl
        clear hS
        go_enter Tryd.func81, Tryd.ntmps81
        go_wp2_with (go_at_call 30; refine (l1In_any _ _ _ _).mono ?_; rintro e w' ⟨rfl, rfl⟩)
        go_ret
        exact ⟨ret_bool HV.out.symm, World.grownBy_alloc _ _ _⟩
      · have HV : Hid (valB 1 N S = false) := by unfold Hid valB; rw [hi]; simpa using hS
        have hE := isEmpty_false hS
        clear hS
        go_enter Tryd.func81, Tryd.ntmps81
        go_wp2_with (go_at_call 30; refine (l1In_any _ _ _ _).mono ?_; rintro e w' ⟨rfl, rfl⟩)
        go_ret
        exact ⟨ret_bool HV.out.symm, World.grownBy_alloc _ _ _⟩
  · have hk1 : (K == 1) = false := by simpa using hK
    by_cases hK2 : K = 2
    · subst hK2
      clear hk1 hK
      have HV := hide (valB_text N S)
      cases ht : textB S
      · rw [ht] at HV
        go_enter Tryd.func81, Tryd.ntmps81
        go_wp2_with (go_at_call 92; refine (l2Plain_any _ _ hs).mono ?_; rintro e w' ⟨rfl, rfl⟩)
        go_ret
        exact ⟨ret_bool HV.out.symm, World.grownBy_alloc _ _ _⟩
      · rw [ht] at HV
        go_enter Tryd.func81, Tryd.ntmps81
        go_wp2_with (go_at_call 92; refine (l2Plain_any _ _ hs).mono ?_; rintro e w' ⟨rfl, rfl⟩)
        go_ret
        exact ⟨ret_bool HV.out.symm, World.grownBy_alloc _ _ _⟩
    · have HV := hide (valB_none N S hK hK2)
      have hk2 : (K == 2) = false := by simpa using hK2
      clear hK hK2
      go_enter Tryd.func81, Tryd.ntmps81
      go_wp2
      go_ret
      exact ⟨ret_bool HV.out.symm, World.grownBy_alloc _ _ _⟩
end Go.Proofs.YtaflokfgbmlmaadDoor
/-
  When a value is right, of its three parts at once.
-/
namespace Go.Proofs.YtaflokfgbmlmaadDoor

def V3.ok (v : V3) : Bool := valB v.K v.N v.S
end Go.Proofs.YtaflokfgbmlmaadDoor
/-
  What the functions on names answer, the tested one and the model alike: nameB of the text, in the world as it was.
-/
namespace Go.Proofs.YtaflokfgbmlmaadDoor
open Go.RowKit
set_option linter.unusedVariables false

def headB (s : ByteArray) (i : Nat) : Bool := wordB (bat s i) && (i != 0 || inB (bat s i) 97 122)
def nameB (s : ByteArray) : Bool := (List.range s.size).all (headB s) && inB s.size 1 12

theorem nameB_no {s : ByteArray} {i : Nat} (h : i < s.size) (hb : headB s i = false) : nameB s = false := by
  unfold nameB
  rw [Bool.and_eq_false_iff]
  left
  rw [← Bool.not_eq_true, List.all_eq_true]
  intro h2
  have := h2 i (by simpa using h)
  rw [hb] at this
  cases this

theorem nameB_all {s : ByteArray} (h : ∀ i, i < s.size → headB s i = true) : nameB s = inB s.size 1 12 := by
  unfold nameB
  have : (List.range s.size).all (headB s) = true := by
    rw [List.all_eq_true]; intro i hi; exact h i (by simpa using hi)
  rw [this]; simp


set_option maxHeartbeats 800000 in
theorem specNameOk_any (s : ByteArray) (w : World) (hs : s.size ≤ maxLen) :
    Calls Tryd.prog 57 #[.string s] w fun e w' => e = .returned (.bool (nameB s)) ∧ w' = w := by
  unfold maxLen at hs
  go_enter Tryd.func57, Tryd.ntmps57
  go_wp2
  go_loop [3] (fun i => ∃ k : Nat, k ≤ s.size ∧ i = .int .i64 k ∧ ∀ j, j < k → headB s j = true) (fun i => s.size - (intOf i).toNat)
  case atStart => exact ⟨0, Nat.zero_le _, rfl, fun j hj => absurd hj (Nat.not_lt_zero _)⟩
  case round =>
    obtain ⟨k, hk, rfl, hall⟩ := hrel
    have HA := hide hall
    clear hall
    by_cases hlt : k < s.size
    · have hlb : 0 ≤ ((s[k]'hlt).toNat : Int) := by omega
      have hub : ((s[k]'hlt).toNat : Int) ≤ 255 := by have := (s[k]'hlt).toNat_lt; omega
      have HH : Hid (headB s k = (wordB ((s[k]'hlt).toNat : Int) && (k != 0 || inB ((s[k]'hlt).toNat : Int) 97 122))) := by
        unfold Hid headB; rw [bat_in hlt]
      cases hw : wordB ((s[k]'hlt).toNat : Int)
      · go_wp2_with (first | (go_at_call 80; refine (l1Letter_any _ _ (by omega) (by omega)).mono ?_; rintro e w' ⟨rfl, rfl⟩))
        rw [nameB_no hlt (by rw [HH.out, hw]; rfl)]
        go_ret
        exact ⟨rfl, rfl⟩
      · by_cases hk0 : 0 < k
        · go_wp2_with (first | (go_at_call 80; refine (l1Letter_any _ _ (by omega) (by omega)).mono ?_; rintro e w' ⟨rfl, rfl⟩))
          go_round
          case rel => exact ⟨k + 1, by omega, by go_num, fun j hj => by
            by_cases hjk : j = k
            · rw [hjk, HH.out, hw]; simp; omega
            · exact HA.out j (by omega)⟩
          case measure => simp [intOf]; omega
        · have h00 : 0 < s.size := by omega
          have hlb0 : 0 ≤ ((s[0]'h00).toNat : Int) := by omega
          have hub0 : ((s[0]'h00).toNat : Int) ≤ 255 := by have := (s[0]'h00).toNat_lt; omega
          have HK : Hid (∀ b, inB ((s[0]'h00).toNat : Int) 97 122 = b → headB s 0 = b) := by
            intro b hb
            have e : k = 0 := by omega
            subst e
            rw [HH.out, hw, hb]; simp
          clear HH
          cases hi : inB ((s[0]'h00).toNat : Int) 97 122
          · go_wp2_with (first | (go_at_call 80; refine (l1Letter_any _ _ (by omega) (by omega)).mono ?_; rintro e w' ⟨rfl, rfl⟩) | (go_at_call 30; refine (l1In_any _ _ _ _).mono ?_; rintro e w' ⟨rfl, rfl⟩))
            rw [nameB_no h00 (HK.out _ hi)]
            go_ret
            exact ⟨rfl, rfl⟩
          · go_wp2_with (first | (go_at_call 80; refine (l1Letter_any _ _ (by omega) (by omega)).mono ?_; rintro e w' ⟨rfl, rfl⟩) | (go_at_call 30; refine (l1In_any _ _ _ _).mono ?_; rintro e w' ⟨rfl, rfl⟩))
            go_round
            case rel => exact ⟨1, by omega, by go_num, fun j hj => by
              obtain rfl : j = 0 := by omega
              exact HK.out _ hi⟩
            case measure => simp [intOf]; omega
    · have HN := hide (nameB_all fun i hi => HA.out i (by omega))
      go_wp2_with (first | (go_at_call 30; refine (l1In_any _ _ _ _).mono ?_; rintro e w' ⟨rfl, rfl⟩))
      go_ret
      exact ⟨ret_bool HN.out.symm, rfl⟩

theorem nameB_size {s : ByteArray} (h : ¬ (1 ≤ s.size ∧ s.size ≤ 12)) : nameB s = false := by
  unfold nameB
  rw [Bool.and_eq_false_iff]
  right
  exact inB_f (by omega)

theorem nameB_tail {s : ByteArray} (h1 : 1 ≤ s.size) (h2 : s.size ≤ 12) (hi : inB (bat s 0) 97 122 = true) : nameB s = allB wordB s := by
  unfold nameB allB
  rw [inB_t (by omega), Bool.and_true]
  rw [Bool.eq_iff_iff, List.all_eq_true, List.all_eq_true]
  have e : ∀ i, headB s i = wordB (bat s i) := fun i => by
    unfold headB
    by_cases h0 : i = 0
    · subst h0; rw [hi]; simp
    · have : (i != 0) = true := by simpa using h0
      rw [this]; simp
  constructor
  · intro h i hm; rw [← e]; exact h i hm
  · intro h i hm; rw [e]; exact h i hm

set_option maxHeartbeats 800000 in
theorem implNameOk_any (s : ByteArray) (w : World) (hs : s.size ≤ maxLen) :
    Calls Tryd.prog 83 #[.string s] w fun e w' => e = .returned (.bool (nameB s)) ∧ w' = w := by
  have hs2 := hs
  unfold maxLen at hs2
  by_cases h1 : 1 ≤ s.size
  · by_cases h2 : s.size ≤ 12
    · have h0 : 0 < s.size := h1
      have HI : Hid (bat s 0 = ((s[0]'h0).toNat : Int)) := bat_in h0
      cases hi : inB ((s[0]'h0).toNat : Int) 97 122
      · rw [nameB_no h0 (by unfold headB; rw [HI.out, hi]; simp)]
        go_enter Tryd.func83, Tryd.ntmps83
        go_wp2_with (first | (go_at_call 93; refine (isSmall_any _ _).mono ?_; rintro e w' ⟨rfl, rfl⟩))
        go_ret
        exact ⟨rfl, rfl⟩
      · have HN := hide (nameB_tail h1 h2 (by rw [HI.out, hi]))
        go_enter Tryd.func83, Tryd.ntmps83
        go_wp2_with fail
        refine (isSmall_any _ _).mono ?_
        rintro e w' ⟨rfl, rfl⟩
        rw [hi]
        go_wp2_with fail
        refine (allBytesWord_any _ _ hs).mono ?_
        rintro e w' ⟨rfl, rfl⟩
        generalize allB wordB s = r at HN ⊢
        go_wp2
        go_ret
        exact ⟨ret_bool HN.out.symm, rfl⟩
    · rw [nameB_size (by omega)]
      go_enter Tryd.func83, Tryd.ntmps83
      go_wp2
      go_ret
      exact ⟨rfl, rfl⟩
  · rw [nameB_size (by omega)]
    go_enter Tryd.func83, Tryd.ntmps83
    go_wp2
    go_ret
    exact ⟨rfl, rfl⟩


end Go.Proofs.YtaflokfgbmlmaadDoor
/-
  What the functions on a fact's rightness answer: factB, the tested one and the model alike.
-/
namespace Go.Proofs.YtaflokfgbmlmaadDoor
open Go.RowKit
set_option linter.unusedVariables false

def factB (kd : ByteArray) (L : List V3) : Bool := nameB kd && decide (L.length ≤ 5) && L.all V3.ok
theorem all_no {L : List V3} {k : Nat} (hk : k < L.length) (h : valB (vAt L k).K (vAt L k).N (vAt L k).S = false) : L.all V3.ok = false := by
  rw [Bool.eq_false_iff]
  intro ha
  have := List.all_eq_true.1 ha L[k] (List.getElem_mem hk)
  rw [← vAt_in hk] at this
  unfold V3.ok at this
  rw [h] at this; cases this
theorem all_yes {L : List V3} (h : ∀ k, k < L.length → valB (vAt L k).K (vAt L k).N (vAt L k).S = true) : L.all V3.ok = true := by
  rw [List.all_eq_true]
  intro v hv
  obtain ⟨k, hk, rfl⟩ := List.getElem_of_mem hv
  rw [← vAt_in hk]; exact h k hk
theorem below_gn {w w' : World} (h : w.grownBy w' none) : Below w.heap.size w w' := (Below.refl _ _).grown h (Nat.le_refl _) (fun k hk => by cases hk)

set_option maxHeartbeats 1600000 in
theorem l3Vals_any (a : Option Addr) (cap : Nat) (L : List V3) (w : World) (hr : RdV w a L) (hs : ∀ v ∈ L, v.S.size ≤ maxLen) (hm : L.length ≤ 1048580) :
    Calls Tryd.prog 58 #[.slice a L.length cap] w fun e w' =>
      e = .returned (.bool (L.all V3.ok && decide (L.length ≤ 5))) ∧ Below w.heap.size w w' := by
  obtain ⟨n, hN⟩ : ∃ n, n = L.length := ⟨_, rfl⟩
  rw [← hN] at hm ⊢
  have HN := hide hN
  have HS := hide hs
  clear hN hs
  go_enter Tryd.func58, Tryd.ntmps58
  go_wp2
  go_loopw [3] (fun i wr => ∃ (k : Nat), k ≤ n ∧ i = .int .i64 k ∧ (∀ j, j < k → valB (vAt L j).K (vAt L j).N (vAt L j).S = true) ∧ Below w.heap.size w wr) (fun i _ => n - (intOf i).toNat)
  case atStart => exact ⟨0, Nat.zero_le _, rfl, fun j hj => absurd hj (Nat.not_lt_zero _), Below.refl _ _⟩
  case round =>
    obtain ⟨k, hk, rfl, hall, hbel⟩ := hrel
    have HA := hide hall
    clear hall
    by_cases hlt : k < n
    · obtain ⟨b, off, hab, hbw, hc⟩ := hr.open (by rw [← HN.out]; omega)
      obtain ⟨c0, c1, c2⟩ := hc k (by rw [← HN.out]; exact hlt)
      clear hc
      subst hab
      rw [← hbel.cell (p := ⟨b, off + k * 3, none⟩) hbw] at c0
      rw [← hbel.cell (p := ⟨b, off + k * 3 + 1, none⟩) hbw] at c1
      rw [← hbel.cell (p := ⟨b, off + k * 3 + 2, none⟩) hbw] at c2
      have hS : (vAt L k).S.size ≤ maxLen := by rw [vAt_in (by rw [← HN.out]; exact hlt)]; exact HS.out _ (List.getElem_mem _)
      go_wp2_with fail
      refine (specValOk_any _ _ _ _ hS).mono ?_
      rintro e w2 ⟨rfl, g2⟩
      have hbel2 : Below w.heap.size w w2 := hbel.trans ((below_gn g2).mono hbel.size)
      clear g2 hS c0 c1 c2 hbel
      cases hv : valB (vAt L k).K (vAt L k).N (vAt L k).S
      · have HV := hide (all_no (by rw [← HN.out]; exact hlt) hv)
        clear hv
        go_wp2
        go_ret
        exact ⟨ret_bool (by rw [HV.out]; rfl), hbel2⟩
      · have HV := hide hv
        clear hv
        go_wp2
        go_roundw
        case rel => exact ⟨k + 1, by omega, by go_num, fun j hj => by
            by_cases hjk : j = k
            · rw [hjk]; exact HV.out
            · exact HA.out j (by omega), hbel2⟩
        case measure => simp [intOf]; omega
    · have HV : Hid (L.all V3.ok = true) := all_yes (fun j hj => HA.out j (by rw [← HN.out] at hj; omega))
      have HD : Hid (decide ((n : Int) ≤ 5) = decide (n ≤ 5)) := by unfold Hid; exact decide_eq_decide.2 (by omega)
      go_wp2
      go_ret
      exact ⟨ret_bool (by rw [HV.out, Bool.true_and]; exact HD.out), hbel⟩

set_option maxHeartbeats 1600000 in
theorem specFactOk_any (kd : ByteArray) (a : Option Addr) (cap : Nat) (L : List V3) (w : World) (hkd : kd.size ≤ maxLen) (hr : RdV w a L) (hs : ∀ v ∈ L, v.S.size ≤ maxLen) (hm : L.length ≤ 1048580) :
    Calls Tryd.prog 31 #[.agg #[.string kd, .slice a L.length cap]] w fun e w' =>
      e = .returned (.bool (factB kd L)) ∧ Below w.heap.size w w' := by
  have HF : Hid (factB kd L = (nameB kd && (L.all V3.ok && decide (L.length ≤ 5)))) := by unfold Hid factB; rw [Bool.and_assoc, Bool.and_comm (decide _)]
  have b0 := below_al w (.cells #[.string kd, .slice a L.length cap] 41)
  cases hn : nameB kd
  · rw [hn] at HF
    go_enter Tryd.func31, Tryd.ntmps31
    go_wp2_with (go_at_call 57; refine (specNameOk_any _ _ hkd).mono ?_; rintro e w' ⟨rfl, rfl⟩)
    go_ret
    exact ⟨ret_bool HF.out.symm, b0⟩
  · rw [hn] at HF
    go_enter Tryd.func31, Tryd.ntmps31
    go_wp2_with fail
    refine (specNameOk_any _ _ hkd).mono ?_
    rintro e w' ⟨rfl, rfl⟩
    go_wp2_with fail
    refine (l3Vals_any a cap L _ (hr.below b0) hs hm).mono ?_
    rintro e w1 ⟨rfl, hb⟩
    have hB : Below w.heap.size w w1 := b0.trans (hb.mono b0.size)
    generalize (L.all V3.ok && decide (L.length ≤ 5)) = r at HF ⊢
    go_wp2
    go_ret
    exact ⟨ret_bool (by rw [HF.out]; rfl), hB⟩

set_option maxHeartbeats 1600000 in
theorem listV_any (a : Option Addr) (cap : Nat) (L : List V3) (w : World) (hr : RdV w a L) (hs : ∀ v ∈ L, v.S.size ≤ maxLen) (hm : L.length ≤ 1048580) :
    Calls Tryd.prog 84 #[.slice a L.length cap, .int .i64 0, .int .i64 5, .func (.func 67) #[] #[]] w fun e w' =>
      e = .returned (.bool (decide (L.length ≤ 5) && L.all V3.ok)) ∧ Below w.heap.size w w' := by
  obtain ⟨n, hN⟩ : ∃ n, n = L.length := ⟨_, rfl⟩
  rw [← hN] at hm ⊢
  have HN := hide hN
  have HS := hide hs
  clear hN hs
  by_cases h5 : n ≤ 5
  · have HF : Hid ((decide (n ≤ 5) && L.all V3.ok) = L.all V3.ok) := by unfold Hid; rw [decide_eq_true h5]; rfl
    go_enter Tryd.func84, Tryd.ntmps84
    go_wp2
    go_loopw [23] (fun i wr => ∃ (k : Nat), k ≤ n ∧ i = .int .i64 k ∧ (∀ j, j < k → valB (vAt L j).K (vAt L j).N (vAt L j).S = true) ∧ Below w.heap.size w wr) (fun i _ => n - (intOf i).toNat)
    case atStart => exact ⟨0, Nat.zero_le _, rfl, fun j hj => absurd hj (Nat.not_lt_zero _), Below.refl _ _⟩
    case round =>
      obtain ⟨k, hk, rfl, hall, hbel⟩ := hrel
      have HA := hide hall
      clear hall
      by_cases hlt : k < n
      · obtain ⟨b, off, hab, hbw, hc⟩ := hr.open (by rw [← HN.out]; omega)
        obtain ⟨c0, c1, c2⟩ := hc k (by rw [← HN.out]; exact hlt)
        clear hc
        subst hab
        rw [← hbel.cell (p := ⟨b, off + k * 3, none⟩) hbw] at c0
        rw [← hbel.cell (p := ⟨b, off + k * 3 + 1, none⟩) hbw] at c1
        rw [← hbel.cell (p := ⟨b, off + k * 3 + 2, none⟩) hbw] at c2
        have hS : (vAt L k).S.size ≤ maxLen := by rw [vAt_in (by rw [← HN.out]; exact hlt)]; exact HS.out _ (List.getElem_mem _)
        have hbel1 := hbel.alloc hbel.size (.cells #[.int .i64 (vAt L k).K, .int .i64 (vAt L k).N, .string (vAt L k).S] 85)
        go_wp2_with fail
        refine (implValOk_any _ _ _ _ hS).mono ?_
        rintro e w2 ⟨rfl, hb2⟩
        have hbel2 : Below w.heap.size w w2 := hbel1.trans (hb2.mono hbel1.size)
        clear hb2 hS c0 c1 c2 hbel hbel1
        cases hv : valB (vAt L k).K (vAt L k).N (vAt L k).S
        · have HV := hide (all_no (by rw [← HN.out]; exact hlt) hv)
          clear hv
          go_wp2
          go_ret
          exact ⟨ret_bool (by rw [HF.out, HV.out]), hbel2⟩
        · have HV := hide hv
          clear hv
          go_wp2
          go_roundw
          case rel => exact ⟨k + 1, by omega, by go_num, fun j hj => by
              by_cases hjk : j = k
              · rw [hjk]; exact HV.out
              · exact HA.out j (by omega), hbel2⟩
          case measure => simp [intOf]; omega
      · have HV : Hid (L.all V3.ok = true) := all_yes (fun j hj => HA.out j (by rw [← HN.out] at hj; omega))
        go_wp2
        go_ret
        exact ⟨ret_bool (by rw [HF.out, HV.out]), hbel⟩
  · have HF : Hid ((decide (n ≤ 5) && L.all V3.ok) = false) := by unfold Hid; rw [decide_eq_false h5]; rfl
    have hn : (5 : Int) < (n : Int) := by omega
    go_enter Tryd.func84, Tryd.ntmps84
    go_wp2
    go_ret
    exact ⟨ret_bool HF.out.symm, Below.refl _ _⟩

set_option maxHeartbeats 1600000 in
theorem namedV_any (kd : ByteArray) (a : Option Addr) (cap : Nat) (L : List V3) (w : World) (hkd : kd.size ≤ maxLen) (hr : RdV w a L) (hs : ∀ v ∈ L, v.S.size ≤ maxLen) (hm : L.length ≤ 1048580) :
    Calls Tryd.prog 66 #[.string kd, .slice a L.length cap, .func (.func 67) #[] #[]] w fun e w' =>
      e = .returned (.bool (factB kd L)) ∧ Below w.heap.size w w' := by
  have HF : Hid (factB kd L = (nameB kd && (decide (L.length ≤ 5) && L.all V3.ok))) := by unfold Hid factB; rw [Bool.and_assoc]
  cases hn : nameB kd
  · rw [hn] at HF
    go_enter Tryd.func66, Tryd.ntmps66
    go_wp2_with (go_at_call 83; refine (implNameOk_any _ _ hkd).mono ?_; rintro e w' ⟨rfl, rfl⟩)
    go_ret
    exact ⟨ret_bool HF.out.symm, Below.refl _ _⟩
  · rw [hn] at HF
    go_enter Tryd.func66, Tryd.ntmps66
    go_wp2_with fail
    refine (implNameOk_any _ _ hkd).mono ?_
    rintro e w' ⟨rfl, rfl⟩
    go_wp2_with fail
    refine (listV_any a cap L _ hr hs hm).mono ?_
    rintro e w1 ⟨rfl, hb⟩
    generalize (decide (L.length ≤ 5) && L.all V3.ok) = r at HF ⊢
    go_wp2
    go_ret
    exact ⟨ret_bool (by rw [HF.out]; rfl), hb⟩

set_option maxHeartbeats 1600000 in
theorem implFactOk_any (kd : ByteArray) (a : Option Addr) (cap : Nat) (L : List V3) (w : World) (hkd : kd.size ≤ maxLen) (hr : RdV w a L) (hs : ∀ v ∈ L, v.S.size ≤ maxLen) (hm : L.length ≤ 1048580) :
    Calls Tryd.prog 41 #[.agg #[.string kd, .slice a L.length cap]] w fun e w' =>
      e = .returned (.bool (factB kd L)) ∧ Below w.heap.size w w' := by
  have b0 := below_al w (.cells #[.string kd, .slice a L.length cap] 41)
  go_enter Tryd.func41, Tryd.ntmps41
  go_wp2_with fail
  refine (namedV_any kd a cap L _ hkd (hr.below b0) hs hm).mono ?_
  rintro e w1 ⟨rfl, hb⟩
  have hB : Below w.heap.size w w1 := b0.trans (hb.mono b0.size)
  go_wp2
  go_ret
  exact ⟨rfl, hB⟩
end Go.Proofs.YtaflokfgbmlmaadDoor
/-
  Plainly: when a store is right.
-/
namespace Go.Proofs.YtaflokfgbmlmaadDoor
open Go.RowKit
set_option linter.unusedVariables false

def prevId (J : List It) (k : Nat) : Int := if k = 0 then 0 else (iAt J (k - 1)).id
def okAt (J : List It) (nx : Int) (k : Nat) : Prop := prevId J k < (iAt J k).id ∧ (iAt J k).id < nx ∧ factB (iAt J k).kd (iAt J k).L = true
def Dist (J : List It) : Prop := ∀ i j, i < j → j < J.length → (iAt J i).same (iAt J j).kd (iAt J j).L = false
def Right (nx : Int) (J : List It) : Prop := (1 ≤ nx ∧ nx ≤ 1000000 ∧ J.length ≤ 40) ∧ (∀ k, k < J.length → okAt J nx k) ∧ Dist J
noncomputable def storeB (nx : Int) (J : List It) : Bool := @decide (Right nx J) (Classical.propDecidable _)
theorem storeB_yes {nx : Int} {J : List It} (h : Right nx J) : storeB nx J = true := by unfold storeB; simp [h]
theorem storeB_no {nx : Int} {J : List It} (h : ¬ Right nx J) : storeB nx J = false := by unfold storeB; simp [h]
theorem storeB_iff {nx : Int} {J : List It} : storeB nx J = true ↔ Right nx J := by unfold storeB; simp
theorem right_pl {nx : Int} {J K : List It} (h : J.map It.pl = K.map It.pl) (hr : Right nx J) : Right nx K := by
  have hl := pl_len h
  have at' : ∀ i, i < K.length → (iAt J i).id = (iAt K i).id ∧ (iAt J i).kd = (iAt K i).kd ∧ (iAt J i).L = (iAt K i).L := fun i hi => pl_at h (by omega)
  refine ⟨by rw [← hl]; exact hr.1, fun k hk => ?_, fun i j hij hj => ?_⟩
  · obtain ⟨h1, h2, h3⟩ := hr.2.1 k (by omega)
    obtain ⟨e1, e2, e3⟩ := at' k hk
    have ep : prevId J k = prevId K k := by
      unfold prevId; split
      · rfl
      · exact (at' (k - 1) (by omega)).1
    exact ⟨by rw [← ep, ← e1]; exact h1, by rw [← e1]; exact h2, by rw [← e2, ← e3]; exact h3⟩
  · have := hr.2.2 i j hij (by omega)
    obtain ⟨e1, e2, e3⟩ := at' i (by omega)
    obtain ⟨f1, f2, f3⟩ := at' j hj
    unfold It.same at *
    rw [← e2, ← e3, ← f2, ← f3]; exact this
theorem storeB_pl {nx : Int} {J K : List It} (h : J.map It.pl = K.map It.pl) : storeB nx J = storeB nx K := by
  rw [Bool.eq_iff_iff, storeB_iff, storeB_iff]
  exact ⟨right_pl h, right_pl h.symm⟩
theorem same_self (x : It) : x.same x.kd x.L = true := by simp [It.same, sameF]
/-- in what is right each fact is found at its own item -/
theorem idP_own {J : List It} (hd : Dist J) {k : Nat} (hk : k < J.length) : idP (J.map It.pl) (iAt J k).kd (iAt J k).L = (iAt J k).id :=
  idP_hit hk (fun j hj => hd j k hj hk) (same_self _)
/-- the Ids ascend -/
theorem ids_up {J : List It} {nx : Int} {n : Nat} (hn : n ≤ J.length) (h : ∀ k, k < n → okAt J nx k) : (∀ k, k < n → 1 ≤ (iAt J k).id) ∧ ∀ i j, i < j → j < n → (iAt J i).id < (iAt J j).id := by
  have step : ∀ k, k + 1 < n → (iAt J k).id < (iAt J (k + 1)).id := fun k hk => by
    have := (h (k + 1) hk).1
    unfold prevId at this
    rw [if_neg (by omega)] at this
    exact this
  refine ⟨fun k => ?_, fun i j hij => ?_⟩
  · induction k with
    | zero => intro hk; have := (h 0 hk).1; unfold prevId at this; rw [if_pos rfl] at this; omega
    | succ k ih => intro hk; have := step k hk; have := ih (by omega); omega
  · induction j with
    | zero => omega
    | succ j ih =>
      intro hj
      have := step j hj
      by_cases e : i = j
      · rw [e]; exact this
      · have := ih (by omega) (by omega); omega
/-- where each fact is found at its own item no two are the same -/
theorem dist_of {J : List It} {nx : Int} (h : ∀ k, k < J.length → okAt J nx k) (hid : ∀ k, k < J.length → idP (J.map It.pl) (iAt J k).kd (iAt J k).L = (iAt J k).id) : Dist J := by
  intro i j hij hj
  cases hs : (iAt J i).same (iAt J j).kd (iAt J j).L
  · rfl
  · exfalso
    -- the first one that is the same
    have key : ∀ n, ∀ i, i ≤ n → i < j → (iAt J i).same (iAt J j).kd (iAt J j).L = true → ∃ m, m < j ∧ (iAt J m).same (iAt J j).kd (iAt J j).L = true ∧ ∀ q, q < m → (iAt J q).same (iAt J j).kd (iAt J j).L = false := by
      intro n
      induction n with
      | zero => intro i hi hij hs; exact ⟨i, hij, hs, fun q hq => by omega⟩
      | succ n ih =>
        intro i hi hij hs
        by_cases e : ∃ q, q < i ∧ (iAt J q).same (iAt J j).kd (iAt J j).L = true
        · obtain ⟨q, hq, hqs⟩ := e
          exact ih q (by omega) (by omega) hqs
        · exact ⟨i, hij, hs, fun q hq => by
            cases h : (iAt J q).same (iAt J j).kd (iAt J j).L
            · rfl
            · exact absurd ⟨q, hq, h⟩ e⟩
    obtain ⟨m, hm, hms, hmn⟩ := key i i (Nat.le_refl _) hij hs
    have e1 := idP_hit (J := J) (k := m) (by omega) hmn hms
    rw [hid j hj] at e1
    have := (ids_up (Nat.le_refl _) h).2 m j hm hj
    omega
theorem right_of {J : List It} {nx : Int} (h0 : 1 ≤ nx ∧ nx ≤ 1000000 ∧ J.length ≤ 40) (h : ∀ k, k < J.length → okAt J nx k) (hid : ∀ k, k < J.length → idP (J.map It.pl) (iAt J k).kd (iAt J k).L = (iAt J k).id) : storeB nx J = true :=
  storeB_yes ⟨h0, h, dist_of h hid⟩
theorem wrong_at {J : List It} {nx : Int} {k : Nat} (hk : k < J.length) (h : ¬ okAt J nx k) : storeB nx J = false := storeB_no (fun hr => h (hr.2.1 k hk))
theorem wrong_id {J : List It} {nx : Int} {k : Nat} (hk : k < J.length) (h : idP (J.map It.pl) (iAt J k).kd (iAt J k).L ≠ (iAt J k).id) : storeB nx J = false := storeB_no (fun hr => h (idP_own hr.2.2 hk))
end Go.Proofs.YtaflokfgbmlmaadDoor
