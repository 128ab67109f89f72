/-
  The model's l4Drop: the items with another number, in a row of the call's own.
-/
import Derived.Test.YtaflokfgbmlmaadDoorJoined2
import Derived.Test.YtaflokfgbmlmaadDoorJDrawB
import Derived.Test.YtaflokfgbmlmaadDoorJBoxK
import Derived.Deep.AppendLies
namespace Go.Proofs.YtaflokfgbmlmaadDoor
open Go.RowKit
set_option linter.unusedVariables false

/-- the items with another number -/
def dropP (K : List It) (id : Int) : List It := K.filter fun x => !decide (x.id = id)
theorem dropP_take {K : List It} {id : Int} {k : Nat} (h : k < K.length) : dropP (K.take (k + 1)) id = dropP (K.take k) id ++ (if (iAt K k).id = id then [] else [iAt K k]) := by
  unfold dropP
  rw [List.take_add_one, List.getElem?_eq_getElem h, List.filter_append, iAt_in h]
  congr 1
  by_cases e : K[k].id = id
  · simp [e]
  · simp [e]
theorem dropP_len (K : List It) (id : Int) : (dropP K id).length ≤ K.length := List.length_filter_le _ _
theorem dropP_mem {K : List It} {id : Int} {x : It} (h : x ∈ dropP K id) : x ∈ K := (List.mem_filter.1 h).1
theorem HoldsI.pair {w : World} {lo g cp : Nat} {K : List It} (h : HoldsI w lo g cp K) : K.Pairwise fun x y => x.L ≠ [] → y.L ≠ [] → x.a ≠ y.a := by
  rw [List.pairwise_iff_getElem]
  intro i j hi hj hij h1 h2
  have := h.apart i j hij hj
  rw [iAt_in hi, iAt_in hj] at this
  exact this h1 h2
/-- some of the items, in order, in another row -/
theorem HoldsI.some {w w' : World} {lo g g' cp cp' : Nat} {K K' : List It} (h : HoldsI w lo g cp K) (hs : K'.Sublist K) (hb : Below w.heap.size w w') (ho : w'.ownsRow w.heap.size 54 3 (.slice (some ⟨g', 0, none⟩) K'.length cp') K'.length (rowOf It.cells K')) (hlo : lo ≤ w.heap.size) : HoldsI w' lo g' cp' K' := by
  have hg := (ho.lt g' rfl).1
  have hm : ∀ i, i < K'.length → ∃ j, j < K.length ∧ iAt K' i = iAt K j := fun i hi => by
    obtain ⟨j, hj, e⟩ := List.getElem_of_mem (hs.subset (List.getElem_mem hi))
    exact ⟨j, hj, by rw [iAt_in hi, iAt_in hj, e]⟩
  refine ⟨owns_base ho (Nat.zero_le _), by omega, fun i hi hne => ?_, fun i j hij hj h1 h2 => ?_, fun i hi => ?_⟩
  · obtain ⟨j, hj, e⟩ := hm i hi
    rw [e] at hne ⊢
    obtain ⟨q, e1, e2, e3, o⟩ := h.vals j hj hne
    exact ⟨q, e1, e2, by have := o.lt; omega, o.later hb⟩
  · have := h.pair.sublist hs
    rw [List.pairwise_iff_getElem] at this
    rw [iAt_in (Nat.lt_trans hij hj)] at h1 ⊢
    rw [iAt_in hj] at h2 ⊢
    exact this i j _ hj hij h1 h2
  · obtain ⟨j, hj, e⟩ := hm i hi
    rw [e]; exact h.lies j hj

set_option maxRecDepth 100000 in
set_option maxHeartbeats 6400000 in
theorem l4Drop_any (p lo n vc : Nat) (va : Option Addr) (nx id : Int) (K : List It) (w : World) (hp : w.heap[p]? = some (.cells #[.slice va n vc, .int .i64 nx] 29 (0, 0))) (hv : HV w lo n va vc K) (hKn : K.length = n) (hn : n ≤ 1048576) (hlop : lo ≤ p) (hlo : lo ≤ w.heap.size) :
    Calls Tryd.prog 89 #[.pointer (some ⟨p, 0, none⟩), .int .i64 id] w fun e w' =>
      (∃ b, e = .returned (.bool b)) ∧ ∃ g' vc', w'.heap[p]? = some (.cells #[.slice (some ⟨g', 0, none⟩) (dropP K id).length vc', .int .i64 nx] 29 (0, 0)) ∧ HoldsI w' lo g' vc' (dropP K id) ∧ Below lo w w' := by
  obtain ⟨i0, hi, hz0, hz1, hz2⟩ := info_parts Tryd.info54
  have HKn := hide hKn
  have hpl := (Array.getElem?_eq_some_iff.1 hp).1
  have HV0 := hide hv
  have HP := hide hp
  have HRd : Hid (RdI w va K) := by
    unfold Hid
    rcases hv with ⟨-, rfl, -, -⟩ | ⟨g, rfl, o⟩
    · exact RdI.nil _ _
    · exact o.rd
  have ho0 := World.ownsRow_lit (base := w.heap.size) (e := 54) (size := 3) w #[] 0 (Nat.le_refl _) (Nat.zero_le _) rfl
  have b0 := below_al w (.cells #[] 54)
  clear hv hp hKn
  go_enter Tryd.func89, Tryd.ntmps89
  go_wp2
  generalize w.alloc (.cells #[] 54) = w0 at ho0 b0
  go_loopw [5, 6] (fun v i wr => ∃ (k g c m : Nat), m = (dropP (K.take k) id).length ∧ k ≤ n ∧ m ≤ k ∧ i = .int .i64 k ∧ v = .slice (some ⟨g, 0, none⟩) m c ∧ wr.ownsRow w.heap.size 54 3 (.slice (some ⟨g, 0, none⟩) m c) m (rowOf It.cells (dropP (K.take k) id)) ∧ Below w.heap.size w wr) (fun _ i _ => n - (intOf i).toNat)
  case atStart => exact ⟨0, w.heap.size, 0, 0, by simp [dropP], Nat.zero_le _, Nat.le_refl _, rfl, rfl, by rw [show dropP (K.take 0) id = [] by simp [dropP]]; exact ho0, b0⟩
  case round =>
    obtain ⟨k, g, c, m, hm, hk, hmk, rfl, rfl, hown, hbel⟩ := hrel
    have HM := hide hm
    have HO := hide hown
    clear ho0 b0 hm hown
    have hcp := boxk_cell (box_below HP.out hbel hpl) 0 _ rfl
    have hfp := boxk_frozen (box_below HP.out hbel hpl) 0
    by_cases hlt : k < n
    · obtain ⟨b, off, hab, hbw, hc⟩ := RdI.open HRd.out (by rw [HKn.out]; omega)
      obtain ⟨d0, d1, d2, -⟩ := hc k (by rw [HKn.out]; exact hlt)
      have HStep := hide (dropP_take (K := K) (id := id) (k := k) (by rw [HKn.out]; exact hlt))
      clear hc
      subst hab
      rw [← hbel.cell (p := ⟨b, off + k * 3, none⟩) hbw] at d0
      rw [← hbel.cell (p := ⟨b, off + k * 3 + 1, none⟩) hbw] at d1
      rw [← hbel.cell (p := ⟨b, off + k * 3 + 2, none⟩) hbw] at d2
      have hl1 : (k : Int) < (n : Int) := by omega
      have hl2 : (0 : Int) ≤ (k : Int) := by omega
      by_cases he : (iAt K k).id = id
      · rw [he] at d0
        have ke : (id != id) = false := by simp
        have HS2 : Hid (dropP (K.take (k + 1)) id = dropP (K.take k) id) := by unfold Hid; rw [HStep.out, if_pos he, List.append_nil]
        clear he
        go_wp2
        go_roundw
        case rel => exact ⟨k + 1, g, c, m, by rw [HS2.out]; exact HM.out, by omega, by omega, by go_num, rfl, by rw [HS2.out]; exact HO.out, hbel⟩
        case measure => simp [intOf]; omega
      · have HS2 : Hid (dropP (K.take (k + 1)) id = dropP (K.take k) id ++ [iAt K k]) := by unfold Hid; rw [HStep.out, if_neg he]
        have ke : ((iAt K k).id != id) = true := by simpa using he
        have HSrc := hide (srcI wr (iAt K k))
        have HO3 := hide (HO.out.alloc (.cells #[.int .i64 (iAt K k).id, .string (iAt K k).kd, .slice (iAt K k).a (iAt K k).L.length (iAt K k).cap] 54))
        have HB3 := hide (hbel.alloc hbel.size (.cells #[.int .i64 (iAt K k).id, .string (iAt K k).kd, .slice (iAt K k).a (iAt K k).L.length (iAt K k).cap] 54))
        have hz4 := HB3.out.size
        have HApp : Hid (rowOf It.cells (dropP (K.take k) id) ++ It.cells (iAt K k) = rowOf It.cells (dropP (K.take (k + 1)) id)) := by unfold Hid; rw [HS2.out, rowOf_append]; simp [rowOf]
        clear he
        go_wp2_with (at_builtin; refine wpList_append_lies _ rfl (.tmp 28) (.tmp 36) 27 rfl w.heap.size 54 i0 (.agg #[.int .i64 0, .string ⟨#[]⟩, .slice none 0 0]) 3 48 Tryd.underlying27 hi hz0 hz1 hz2 rfl (by omega) (.slice (some ⟨g, 0, none⟩) m c) m (rowOf It.cells (dropP (K.take k) id)) rfl HO3.out ⟨wr.heap.size, 0, none⟩ 1 1 (It.cells (iAt K k)) ?hx rfl HSrc.out (oneI _) (by omega) (by unfold maxLen; omega) (by omega) hz4 _ rfl ?_)
        case hx => simp [Act.eval]
        intro g5 c5 w5 ho5 hg5 hat5 hlt5
        rw [HApp.out] at ho5
        have HO5 := hide ho5
        have HB5 := hide (HB3.out.grown hg5 HB3.out.size (fun j hj => (HO3.out.lt j hj).1))
        clear ho5 hg5 hat5 hlt5 HO3 HB3 HSrc HApp d0 d1 d2 hcp hfp hbel HO
        go_wp2
        go_roundw
        case rel => exact ⟨k + 1, g5, c5, m + 1, by rw [HS2.out, List.length_append, ← HM.out]; rfl, by omega, by omega, by go_num, rfl, HO5.out, HB5.out⟩
        case measure => simp [intOf]; omega
    · have hkn : k = K.length := by rw [HKn.out]; omega
      have HEnd : Hid (dropP (K.take k) id = dropP K id) := by unfold Hid; rw [hkn, List.take_length]
      rw [HEnd.out] at HO HM
      clear hkn HEnd
      have hbox := box_below HP.out hbel hpl
      obtain ⟨hb2, gr2⟩ := box2_set0 hbox (.slice (some ⟨g, 0, none⟩) m c)
      have hgw := (HO.out.lt g rfl).1
      have HRes : Hid (HoldsI (wr.setCell ⟨p, 0, none⟩ (.slice (some ⟨g, 0, none⟩) m c)) lo g c (dropP K id)) := by
        unfold Hid
        have hm2 := HM.out
        subst hm2
        rcases HV0.out with ⟨-, rfl, -, -⟩ | ⟨g1, rfl, o⟩
        · have hd : dropP [] id = [] := rfl
          rw [hd]
          have ho := HO.out
          rw [hd] at ho
          refine ⟨owns_base (ho.kept gr2 (.inr (by simp [Value.ownBlock]; omega))) (Nat.zero_le _), by omega, fun i hi => absurd hi (Nat.not_lt_zero _), fun i j _ hj => absurd hj (Nat.not_lt_zero _), fun i hi => absurd hi (Nat.not_lt_zero _)⟩
        · have o2 := o.some (List.filter_sublist) hbel HO.out hlo
          exact o2.other hbox (fun q hq hne => gr2.block q hq (fun e => hne (Option.some.inj e)))
      have HB2 : Hid (Below lo w (wr.setCell ⟨p, 0, none⟩ (.slice (some ⟨g, 0, none⟩) m c))) := (hbel.mono hlo).grown gr2 (Nat.le_trans hlo hbel.size) (fun j hj => by cases hj; exact hlop)
      have HBx := hide hb2
      clear hbox hb2 gr2 HO HV0
      go_wp2
      go_ret
      exact ⟨⟨_, rfl⟩, g, c, by rw [← HM.out]; exact HBx.out, HRes.out, HB2.out⟩
end Go.Proofs.YtaflokfgbmlmaadDoor
