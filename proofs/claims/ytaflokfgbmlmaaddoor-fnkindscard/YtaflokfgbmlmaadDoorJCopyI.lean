/-
  The tested program's copies of items and of stores: what is copied lies in blocks of its own, no two lists in one.
-/
import Derived.Test.YtaflokfgbmlmaadDoorJCopyF
import Derived.Test.YtaflokfgbmlmaadDoorJoined2
import Derived.Deep.RegionHeld3
namespace Go.Proofs.YtaflokfgbmlmaadDoor
open Go.RowKit
set_option linter.unusedVariables false

theorem ownsRow_sameB {w w' : World} {base n size : Nat} {T : TypeId} {v : Value} {xs : List Value} (h : w.ownsRow base T size v n xs) (hs : ∀ k, v.ownBlock = some k → w'.heap[k]? = w.heap[k]?) : w'.ownsRow base T size v n xs := by
  refine ⟨h.1, ?_⟩
  rcases h.2 with h2 | ⟨g, cap, cur, rfl, hb, hg, rest⟩
  · exact .inl h2
  · exact .inr ⟨g, cap, cur, rfl, hb, by rw [hs g rfl]; exact hg, rest⟩
/-- the row moves to another block: the copied lists lie in none of the two -/
theorem Copied.rebase {w w' : World} {lo g g' : Nat} {J K : List It} {k : Nat} (h : Copied w lo g J K k) (hk : ∀ q, q < w.heap.size → q ≠ g → w'.heap[q]? = w.heap[q]?) (hg : g' = g ∨ w.heap.size ≤ g') : Copied w' lo g' J K k := by
  refine ⟨fun i hi => ?_, h.2⟩
  obtain ⟨h1, h2, h3⟩ := h.1 i hi
  refine ⟨h1, fun hne => ?_, h3⟩
  obtain ⟨q, e, hl, hq, o⟩ := h2 hne
  have hlt := o.lt
  refine ⟨q, e, hl, by rcases hg with rfl | hg; exact hq; omega, ?_⟩
  exact ownsRow_sameB o (fun j hj => by simp only [Value.ownBlock, Option.some.injEq] at hj; rw [← hj]; exact hk q hlt hq)
theorem iAt_app_lt {K : List It} {x : It} {i : Nat} (h : i < K.length) : iAt (K ++ [x]) i = iAt K i := by
  rw [iAt_in (by simp; omega), iAt_in h]; simp [List.getElem_append_left h]
theorem iAt_app_eq (K : List It) (x : It) : iAt (K ++ [x]) K.length = x := by
  rw [iAt_in (by simp)]; simp
theorem rowI_app (K : List It) (x : It) : rowOf It.cells K ++ x.cells = rowOf It.cells (K ++ [x]) := by rw [rowOf_append]; simp [rowOf]
theorem srcI (W : World) (x : It) : ∀ j u, x.cells[j]? = some u → (W.alloc (.cells #[.int .i64 x.id, .string x.kd, .slice x.a x.L.length x.cap] 54)).cell? ((⟨W.heap.size, 0, none⟩ : Addr).add j) = some u := by
  obtain ⟨h0, h1, h2, -, -, -⟩ := box_cell (box_new W (.int .i64 x.id) (.string x.kd) (.slice x.a x.L.length x.cap) 54)
  intro j u hj
  rw [Addr.add_lit, Nat.zero_add]
  match j, hj with
  | 0, hj => rw [h0]; simpa [It.cells] using hj
  | 1, hj => rw [h1]; simpa [It.cells] using hj
  | 2, hj => rw [h2]; simpa [It.cells] using hj
theorem cell_far3 {w w' : World} {g b o : Nat} {v : Value} (hg : w.grownBy w' (some g)) (h : w.cell? ⟨b, o, none⟩ = some v) (hlt : b < w.heap.size) (hne : g < b) : w'.cell? ⟨b, o, none⟩ = some v := by
  rw [hg.cell_far ⟨b, o, none⟩ hlt (fun e => by have e2 : b = g := Option.some.inj e; omega)]; exact h
theorem oneI (x : It) : ∀ u ∈ x.cells, u.oneCell' = true := by
  intro u hu
  simp only [It.cells, List.mem_cons, List.not_mem_nil, or_false] at hu
  rcases hu with rfl | rfl | rfl <;> rfl

set_option maxRecDepth 100000 in
set_option maxHeartbeats 6400000 in
theorem copyItems_any (a : Option Addr) (n cap : Nat) (J : List It) (w : World) (hr : RdI w a J) (hJ : J.length = n) (hn : n ≤ 1048576) (hl : ∀ i, i < J.length → (iAt J i).L.length ≤ 1048580) (hli : ∀ i, i < J.length → LieV (iAt J i).a (iAt J i).L.length (iAt J i).cap) :
    Calls Tryd.prog 65 #[.slice a n cap] w fun e w' =>
      ∃ K g cp, e = .returned (.slice (some ⟨g, 0, none⟩) n cp) ∧ HoldsI w' w.heap.size g cp K ∧ K.map It.pl = J.map It.pl ∧ Below w.heap.size w w' := by
  obtain ⟨i0, hi, hz0, hz1, hz2⟩ := info_parts Tryd.info54
  have HJ := hide hJ
  have HL := hide hl
  have HLi := hide hli
  clear hJ hl hli
  go_enter Tryd.func65, Tryd.ntmps65
  go_wp2_with (at_make; refine wpList_make_own _ rfl _ _ 27 rfl w.heap.size 54 i0 (.agg #[.int .i64 0, .string ⟨#[]⟩, .slice none 0 0]) 3 Tryd.underlying27 hi hz0 hz1 _ _ _ (n + 1) rfl rfl ?b1 ?b2 ?b3 (Nat.le_refl _) ?_)
  case b1 => omega
  case b2 => rw [hz2]; omega
  case b3 => unfold maxLen; omega
  intro w0 hown0 hgrow0
  have hs0 : w.heap.size < w0.heap.size := (hown0.lt w.heap.size rfl).2
  have hb0 : Below w.heap.size w w0 := (Below.refl _ _).grown hgrow0 (Nat.le_refl _) (fun k h => by cases h)
  go_wp2
  go_loopw [3, 12] (fun v i wr => ∃ (k g cp : Nat) (K : List It), k ≤ n ∧ i = .int .i64 k ∧ v = .slice (some ⟨g, 0, none⟩) k cp ∧ K.length = k ∧ w.heap.size ≤ g ∧ g < wr.heap.size ∧ wr.ownsRow w.heap.size 54 3 (.slice (some ⟨g, 0, none⟩) k cp) k (rowOf It.cells K) ∧ Copied wr w.heap.size g J K k ∧ Below w.heap.size w wr)
    (fun _ i _ => n - (intOf i).toNat)
  case atStart => exact ⟨0, w.heap.size, n + 1, [], Nat.zero_le _, rfl, rfl, rfl, Nat.le_refl _, hs0, hown0, Copied.zero _ _ _ _ _, hb0⟩
  case round =>
    clear hown0 hgrow0 hb0 hs0
    obtain ⟨k, g, cp, K, hk, rfl, rfl, hKk, hgl, hgs, hown, hcop, hbel⟩ := hrel
    have HKk := hide hKk
    have HCop := hide hcop
    have HOwn := hide hown
    clear hKk hcop
    by_cases hlt : k < n
    · obtain ⟨b, off, hab, hbw, hc⟩ := (hr.below hbel).open (by rw [HJ.out]; omega)
      obtain ⟨c0, c1, c2, hv⟩ := hc k (by rw [HJ.out]; exact hlt)
      have HLk := hide (HL.out k (by rw [HJ.out]; exact hlt))
      have HLik := hide (HLi.out k (by rw [HJ.out]; exact hlt))
      clear hc hown
      subst hab
      obtain ⟨x, hx⟩ : ∃ x, x = iAt J k := ⟨_, rfl⟩
      rw [← hx] at c0 c1 c2 hv HLk HLik
      have HX := hide hx
      clear hx
      obtain ⟨id, kd, va, vc, L⟩ := x
      simp only at c0 c1 c2 hv HLk HLik
      have ba := below_al wr (.cells #[.int .i64 id, .string kd, .slice va L.length vc] 54)
      have hBox := box_new wr (.int .i64 id) (.string kd) (.slice va L.length vc) 54
      have hB1 : Below w.heap.size w (wr.alloc (.cells #[.int .i64 id, .string kd, .slice va L.length vc] 54)) := hbel.trans (ba.mono hbel.size)
      have hv1 := hv.below ba
      go_wp2_with fail
      generalize hw1 : wr.alloc (.cells #[.int .i64 id, .string kd, .slice va L.length vc] 54) = w1 at ba hBox hB1 hv1 ⊢
      clear hw1 c0 c1 c2 hv
      obtain ⟨x0, x1, x2, -, -, -⟩ := box_cell hBox
      have hX1 := (Array.getElem?_eq_some_iff.1 hBox).1
      have hv1d : RdV w1.drew va L := hv1.heap rfl
      have ba' : Below wr.heap.size wr w1.drew := ba.drew
      refine wp_region_held_drew (S := fun W => W.cell? ⟨wr.heap.size, 0, none⟩ = some (.int .i64 id) ∧ W.cell? ⟨wr.heap.size, 1, none⟩ = some (.string kd) ∧ W.cell? ⟨wr.heap.size, 2, none⟩ = some (.slice va L.length vc)) (by kernel_rfl) ⟨x0, x1, x2⟩ (fun hHeld => ?_)
      refine wpAnyH_take (i := 0) (oi := Oper.mk (some 16) _ _ _ _ _) (v := ?v1) rfl (by kernel_rfl) (by kernel_rfl) (by kernel_rfl) (fun _ _ _ h => h) (Or.inl ⟨by rfl, ?y1⟩) hHeld ?r1
      case y1 => (intro W hSW; obtain ⟨q0, q1, q2⟩ := hSW; go_simp; try with_reducible rfl)
      simp only [Act.put, List.setIfInBounds_toArray, List.set_cons_zero, List.set_cons_succ]
      refine wpAnyH_take (i := 1) (oi := Oper.mk (some 17) _ _ _ _ _) (v := ?v2) rfl (by kernel_rfl) (by kernel_rfl) (by kernel_rfl) (fun _ _ _ h => h) (Or.inl ⟨by rfl, ?y2⟩) hHeld ?r2
      case y2 => (intro W hSW; obtain ⟨q0, q1, q2⟩ := hSW; go_simp; try with_reducible rfl)
      simp only [Act.put, List.setIfInBounds_toArray, List.set_cons_zero, List.set_cons_succ]
      refine wpAnyH_take (i := 2) (oi := Oper.mk (some 18) _ _ _ _ _) (v := ?v3) rfl (by kernel_rfl) (by kernel_rfl) (by kernel_rfl) (fun _ _ _ h => h) (Or.inl ⟨by rfl, ?y3⟩) hHeld ?r3
      case y3 => (intro W hSW; obtain ⟨q0, q1, q2⟩ := hSW; go_simp; try with_reducible rfl)
      simp only [Act.put, List.setIfInBounds_toArray, List.set_cons_zero, List.set_cons_succ]
      refine wpAnyH_take (i := 3) (oi := Oper.mk (some 19) _ _ _ _ _) (v := ?v4) rfl (by kernel_rfl) (by kernel_rfl) (by kernel_rfl) (fun _ _ _ h => h) (Or.inl ⟨by rfl, ?y4⟩) hHeld ?r4
      case y4 => (intro W hSW; obtain ⟨q0, q1, q2⟩ := hSW; go_simp; try with_reducible rfl)
      simp only [Act.put, List.setIfInBounds_toArray, List.set_cons_zero, List.set_cons_succ]
      refine wpAnyH_take (i := 4) (oi := Oper.mk (some 20) _ _ _ _ _) (v := ?v5) rfl (by kernel_rfl) (by kernel_rfl) (by kernel_rfl) (fun _ _ _ h => h) (Or.inl ⟨by rfl, ?y5⟩) hHeld ?r5
      case y5 => (intro W hSW; obtain ⟨q0, q1, q2⟩ := hSW; go_simp; try with_reducible rfl)
      simp only [Act.put, List.setIfInBounds_toArray, List.set_cons_zero, List.set_cons_succ]
      refine wpAnyH_ready (rs := [5]) (by kernel_rfl) (by simp) (AllReadyH.cons (o := Oper.mk (some 21) _ _ _ _ _) rfl (fun Kk hK => ?_) AllReadyH.nil)
      go_simp
      refine (copyFact_any kd va vc L _ hv1d HLik.out HLk.out).mono ?_
      rintro e w2 ⟨a', c', rfl, hnew, b2⟩
      have hb12 : Below w1.heap.size w1 w2 := below_dr b2
      have hbr2 : Below wr.heap.size wr w2 := ba.trans (hb12.mono ba.size)
      obtain ⟨z0, z1, z2, -, -, -⟩ := box_cell (box_step hBox hb12)
      refine hK.out _ _ ⟨z0, z1, z2⟩ (fun hHeld => ?_)
      clear hK Kk
      refine wpAnyH_take (i := 6) (oi := Oper.mk (some 22) _ _ _ _ _) (v := ?v6) rfl (by kernel_rfl) (by kernel_rfl) (by kernel_rfl) (fun _ _ _ h => h) (Or.inl ⟨by rfl, ?y6⟩) hHeld ?r6
      case y6 => (intro W hSW; obtain ⟨q0, q1, q2⟩ := hSW; go_simp; try with_reducible rfl)
      simp only [Act.put, List.setIfInBounds_toArray, List.set_cons_zero, List.set_cons_succ]
      refine wpAnyH_ready (rs := [7]) (by kernel_rfl) (by simp) (AllReadyH.cons (o := Oper.mk (some 23) _ _ _ _ _) rfl (fun Kk hK => ?_) AllReadyH.nil)
      go_simp
      have ba3 := below_al w2 (.cells #[.int .i64 id, .string kd, .slice a' L.length c'] 54)
      obtain ⟨z0, z1, z2, -, -, -⟩ := box_cell (box_step (box_step hBox hb12) ba3)
      have hbr3 := hbr2.trans (ba3.mono hbr2.size)
      have hnew3 : NewV _ w1.heap.size a' c' L := hnew.later ba3
      have HSrc := hide (srcI w2 ⟨id, kd, a', c', L⟩)
      have HO3 := hide (ownsRow_below HOwn.out hbr3)
      have hB3 := hbel.trans (hbr3.mono hbel.size)
      have hX3 : w2.heap.size = w2.heap.size := rfl
      refine hK.out _ _ ⟨z0, z1, z2⟩ (fun hHeld => ?_)
      clear hK Kk
      refine wpAnyH_ready (rs := [8]) (by kernel_rfl) (by simp) (AllReadyH.cons (o := Oper.mk (some 24) _ _ _ _ _) rfl (fun Kk hK => ?_) AllReadyH.nil)
      refine step_append_lies _ rfl (.tmp 16) (.tmp 23) 27 rfl w.heap.size 54 i0 (.agg #[.int .i64 0, .string ⟨#[]⟩, .slice none 0 0]) 3 48 Tryd.underlying27 hi hz0 hz1 hz2 rfl (by omega) (.slice (some ⟨g, 0, none⟩) k cp) k (rowOf It.cells K) rfl HO3.out ⟨w2.heap.size, 0, none⟩ 1 1 (It.cells ⟨id, kd, a', c', L⟩) ?hx rfl HSrc.out (oneI _) (by omega) (by unfold maxLen; omega) (by omega) hB3.size _ rfl ?_
      case hx => simp [Act.eval]
      intro g5 c5 w5 ho5 hg5 hat5 hlt5
      have hwr3 : wr.heap.size < (w2.alloc (.cells #[.int .i64 id, .string kd, .slice a' L.length c'] 54)).heap.size := Nat.lt_of_lt_of_le hX1 (Nat.le_trans hb12.size ba3.size)
      have y0 := cell_far3 hg5 z0 hwr3 hgs
      have y1 := cell_far3 hg5 z1 hwr3 hgs
      have y2 := cell_far3 hg5 z2 hwr3 hgs
      have HC3 := hide ((HCop.out.more (K' := K ++ [⟨id, kd, a', c', L⟩]) (x := ⟨id, kd, a', c', L⟩) hbr3 (World.grownBy.refl _ _) (fun i hi => iAt_app_lt (by rw [HKk.out]; exact hi)) (by have e := iAt_app_eq K ⟨id, kd, a', c', L⟩; rw [HKk.out] at e; exact e) (by rw [← HX.out]; rfl) (fun hne => by obtain ⟨q, e, h1, o⟩ := hnew3.own hne; exact ⟨q, e, Nat.le_trans (Nat.le_of_lt hX1) h1, o⟩) hnew3.2 hbel.size hgs).rebase (g' := g5) (fun q hq hne => hg5.block q hq (fun e => hne (Option.some.inj e))) (by rcases hat5 with e | e; exact .inl (Option.some.inj e).symm; exact .inr (Nat.le_of_eq e.symm)))
      have hg5l : w.heap.size ≤ g5 := by
        rcases hat5 with e | e
        · have e2 : g = g5 := Option.some.inj e
          rw [← e2]; exact hgl
        · rw [e]; exact hB3.size
      have HB5 := hide (hB3.grown hg5 hB3.size (fun q e => by have e2 : g = q := Option.some.inj e; rw [← e2]; exact hgl))
      rw [rowI_app] at ho5
      have HO5 := hide ho5
      have HLen : Hid ((K ++ [(⟨id, kd, a', c', L⟩ : It)]).length = k + 1) := by unfold Hid; rw [List.length_append, HKk.out]; rfl
      refine hK.out _ _ ⟨y0, y1, y2⟩ (fun hHeld => ?_)
      clear hK Kk ho5 hg5 HSrc HO3 hB3 hbr3 hnew3 hnew ba3 hbr2 hb12 z0 z1 z2 y0 y1 y2 x0 x1 x2 hBox HCop HOwn hv1 hv1d ba ba' hB1 b2
      refine wpAnyH_take (i := 9) (oi := Oper.mk (some 3) _ _ _ _ _) (v := ?v9) rfl (by kernel_rfl) (by kernel_rfl) (by kernel_rfl) (fun _ _ _ h => h) (Or.inl ⟨by rfl, ?y9⟩) hHeld ?r9
      case y9 => (intro W hSW; obtain ⟨q0, q1, q2⟩ := hSW; go_simp; try with_reducible rfl)
      simp only [Act.put, List.setIfInBounds_toArray, List.set_cons_zero, List.set_cons_succ]
      refine wpAnyH_done (by kernel_rfl) ?_ _
      go_wp2
      go_roundw
      case rel => exact ⟨k + 1, g5, c5, _, by omega, by go_num, rfl, HLen.out, hg5l, hlt5, HO5.out, HC3.out, HB5.out⟩
      case measure => simp [intOf]; omega
    · have hkn : k = K.length := by rw [HKk.out]
      have HR : Hid (HoldsI wr w.heap.size g cp K ∧ K.map It.pl = J.map It.pl) := by
        refine Copied.done (hkn ▸ HCop.out) (by rw [HKk.out, HJ.out]; omega) hgl ?_
        rw [HKk.out]; exact hown
      have hkn2 : k = n := by omega
      subst hkn2
      clear hkn hown
      go_wp2
      go_ret
      exact ⟨K, g, cp, rfl, HR.out.1, HR.out.2, hbel⟩
end Go.Proofs.YtaflokfgbmlmaadDoor
