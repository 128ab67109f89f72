/-
  What the model answers: PosCount, PosVars, KindsOf, plainly the same as the tested ones.
-/
import Derived.Test.YtcfhpcbkdpgboaaGreatDoorJoined2
import Derived.Test.YtcfhpcbkdpgboaaGreatDoorJoined1
namespace Go.Proofs.YtcfhpcbkdpgboaaGreatDoor
open Go.RowKit
set_option linter.unusedVariables false

theorem cell_same {w w' : World} {p : Addr} (h : w'.heap[p.block]? = w.heap[p.block]?) : w'.cell? p = w.cell? p := by simp [World.cell?, h]
theorem adds_len (l : List ByteArray) : ∀ s : List ByteArray, (adds l s).length ≤ l.length + s.length := fun s => by
  induction s generalizing l with
  | nil => simp [adds]
  | cons x r ih =>
    have h1 := ih (addS l x)
    have h2 := addS_len l x
    have h3 : adds l (x :: r) = adds (addS l x) r := rfl
    rw [h3]
    simp only [List.length_cons]; omega
theorem adds_take {l s : List ByteArray} {k : Nat} (h : k < s.length) : adds l (s.take (k + 1)) = addS (adds l (s.take k)) (sAt s k) := by
  rw [List.take_succ_eq_append_getElem h, adds_snoc, sAt_in h]
theorem count_step {J : List PE} {k : Nat} (h : k < J.length) : (posB (J.take (k + 1))).length = (posB (J.take k)).length + (if (eAt J k).nt = true then 0 else 1) := by
  rw [posB_take h, List.length_append]
  split <;> rfl

set_option maxRecDepth 100000 in
set_option maxHeartbeats 1600000 in
theorem specPosCount_any (x : RE) (w : World) (hr : RdRule w x) (hn : x.nP ≤ 1048576) :
    Calls Tryz.prog 47 #[.agg #[.string x.nm, .int .i64 x.sal, .slice x.aP x.nP x.cP, .slice x.aC x.nC x.cC, .slice x.aA x.nA x.cA]] w fun e w' =>
      e = .returned (.int .i64 ((posB x.P).length : Int)) ∧ Below w.heap.size w w' := by
  have b0 := below_al w (.cells #[.string x.nm, .int .i64 x.sal, .slice x.aP x.nP x.cP, .slice x.aC x.nC x.cC, .slice x.aA x.nA x.cA] 40)
  have hX := boxk_new w #[.string x.nm, .int .i64 x.sal, .slice x.aP x.nP x.cP, .slice x.aC x.nC x.cC, .slice x.aA x.nA x.cA] 40
  have HN := hide hr.np
  have HE : Hid ((posB (x.P.take x.nP)).length = (posB x.P).length) := by unfold Hid; rw [← hr.np, List.take_length]
  have hp := hr.p.below b0
  go_enter Tryz.func47, Tryz.ntmps47
  go_wp2
  generalize w.alloc (.cells #[.string x.nm, .int .i64 x.sal, .slice x.aP x.nP x.cP, .slice x.aC x.nC x.cC, .slice x.aA x.nA x.cA] 40) = w1 at b0 hX hp ⊢
  have HX := hide hX
  clear hX
  go_loopw [3, 4] (fun v i wr => ∃ (k m : Nat), k ≤ x.nP ∧ i = .int .i64 k ∧ v = .int .i64 (m : Int) ∧ m = (posB (x.P.take k)).length ∧ m ≤ k ∧ wr = w1) (fun _ i _ => x.nP - (intOf i).toNat)
  case atStart => exact ⟨0, 0, Nat.zero_le _, rfl, rfl, by simp [posB], Nat.le_refl _, rfl⟩
  case round =>
    obtain ⟨k, m, hk, rfl, rfl, hm, hmk, rfl⟩ := hrel
    have HM := hide hm
    clear hm
    have a2 := boxk_cell HX.out 2 _ rfl
    by_cases hlt : k < x.nP
    · have hlL : k < x.P.length := by rw [HN.out]; exact hlt
      obtain ⟨b, off, hab, hbw, hc⟩ := hp.cells (by omega)
      obtain ⟨-, -, c2, -⟩ := hc k hlL
      clear hc
      have HT := hide (count_step hlL)
      rw [hab] at a2
      rw [hab]
      generalize (eAt x.P k).nt = nt at c2 HT
      cases nt
      · have HR : Hid (m + 1 = (posB (x.P.take (k + 1))).length) := by unfold Hid; rw [HT.out, HM.out]; rfl
        clear HT
        go_wp2
        go_roundw
        case rel => exact ⟨k + 1, m + 1, by omega, by go_num, by go_num, HR.out, by omega, by first | rfl | trivial⟩
        case measure => simp [intOf]; omega
      · have HR : Hid (m = (posB (x.P.take (k + 1))).length) := by unfold Hid; rw [HT.out, HM.out]; rfl
        clear HT
        go_wp2
        go_roundw
        case rel => exact ⟨k + 1, m, by omega, by go_num, rfl, HR.out, by omega, by first | rfl | trivial⟩
        case measure => simp [intOf]; omega
    · obtain rfl : k = x.nP := by omega
      go_wp2
      go_ret
      exact ⟨by rw [HM.out, HE.out]; rfl, b0⟩

set_option maxRecDepth 100000 in
set_option maxHeartbeats 6400000 in
theorem specPosVars_any (x : RE) (w : World) (hr : RdRule w x) (hs : x.small) :
    Calls Tryz.prog 43 #[.agg #[.string x.nm, .int .i64 x.sal, .slice x.aP x.nP x.cP, .slice x.aC x.nC x.cC, .slice x.aA x.nA x.cA]] w fun e w' =>
      GivesS e w' w.heap.size (varsB [] (posB x.P)) ∧ Below w.heap.size w w' := by
  obtain ⟨i0, hi, hz0, hz1, hz2⟩ := info_parts infoStr
  have b0 := below_al w (.cells #[.string x.nm, .int .i64 x.sal, .slice x.aP x.nP x.cP, .slice x.aC x.nC x.cC, .slice x.aA x.nA x.cA] 40)
  have hX := boxk_new w #[.string x.nm, .int .i64 x.sal, .slice x.aP x.nP x.cP, .slice x.aC x.nC x.cC, .slice x.aA x.nA x.cA] 40
  have hw1 : (w.alloc (.cells #[.string x.nm, .int .i64 x.sal, .slice x.aP x.nP x.cP, .slice x.aC x.nC x.cC, .slice x.aA x.nA x.cA] 40)).heap.size = w.heap.size + 1 := by simp
  have HW1 := hide hw1
  clear hw1
  have hzz : w.heap.size < (w.alloc (.cells #[.string x.nm, .int .i64 x.sal, .slice x.aP x.nP x.cP, .slice x.aC x.nC x.cC, .slice x.aA x.nA x.cA] 40)).heap.size := by simp
  obtain ⟨s1, s2, -, -⟩ := hs
  unfold RE.sz at s1
  have hn : x.nP ≤ 1048576 := by rw [← hr.np]; omega
  have hM : (x.P.map PE.sz).sum ≤ 1048576 := by omega
  have HM := hide hM
  have HN := hide hr.np
  have HS := hide s2
  have HE : Hid (varsB [] (posB (x.P.take x.nP)) = varsB [] (posB x.P)) := by unfold Hid; rw [← hr.np, List.take_length]
  clear s1 s2 hM
  go_enter Tryz.func43, Tryz.ntmps43
  go_wp2
  generalize w.alloc (.cells #[.string x.nm, .int .i64 x.sal, .slice x.aP x.nP x.cP, .slice x.aC x.nC x.cC, .slice x.aA x.nA x.cA] 40) = w1 at b0 hX hzz HW1 ⊢
  have HX := hide hX
  clear hX
  have ho0 : RowS w1 (.slice (some ⟨w.heap.size + 1, 0, none⟩) 0 0) [] (w1.alloc (.cells #[] 9)) := by
    rw [← HW1.out]
    exact ⟨World.ownsRow_lit (base := w1.heap.size) (e := 9) (size := 1) w1 #[] 0 (Nat.le_refl _) (by unfold maxLen; omega) rfl, below_al _ _⟩
  go_loopw [3, 4] (fun v i wr => ∃ (k : Nat), k ≤ x.nP ∧ i = .int .i64 k ∧ RowS w1 v (varsB [] (posB (x.P.take k))) wr) (fun _ i _ => x.nP - (intOf i).toNat)
  case atStart => exact ⟨0, Nat.zero_le _, rfl, ho0⟩
  case round =>
    clear ho0
    obtain ⟨wo, hwo⟩ : ∃ wo : World, wo = wr := ⟨_, rfl⟩
    subst hwo
    obtain ⟨k, hk, rfl, hrow⟩ := hrel
    have HRow := hide hrow
    clear hrow
    have a2 := boxk_cell (box_below HX.out HRow.out.2 hzz) 2 _ rfl
    by_cases hlt : k < x.nP
    · have hlL : k < x.P.length := by rw [HN.out]; exact hlt
      obtain ⟨b, off, hab, hbw, hc⟩ := ((hr.p.below b0).below HRow.out.2).cells (by omega)
      obtain ⟨c0, c1, c2, hin⟩ := hc k hlL
      clear hc
      have HIn := hide hin
      have hS := HS.out _ (eAt_mem hlL)
      have hvl : (varsL (eAt x.P k).L).length ≤ (eAt x.P k).L.length := by
        have := varsL_len (eAt x.P k).L _ (Nat.le_refl _)
        rw [List.take_length] at this; exact this
      have hlen : (varsB [] (posB (x.P.take k))).length + (eAt x.P k).L.length ≤ 1048576 := by
        have h1 := varsB_len [] (posB (x.P.take k))
        have h0 := sum_sub PE.sz (fun p => !p.nt) (x.P.take k)
        have h2 := totW_step (wt := PE.sz) hlL
        have h3 := totW_le PE.sz x.P (k + 1)
        have h4 : (eAt x.P k).sz = (eAt x.P k).kd.size + (eAt x.P k).L.length := rfl
        have h5 := HM.out
        unfold totW at h2 h3
        simp only [List.length_nil] at h1
        unfold posB at h1 ⊢
        omega
      have HT : Hid (varsB [] (posB (x.P.take (k + 1))) = if (eAt x.P k).nt = true then varsB [] (posB (x.P.take k)) else adds (varsB [] (posB (x.P.take k))) (varsL (eAt x.P k).L)) := by
        unfold Hid
        rw [posB_take hlL]
        split
        · rw [List.append_nil]
        · rw [varsF_of]; unfold varsB; rw [List.foldl_append]; rfl
      have HAb := hide hab
      rw [hab] at a2
      rw [hab]
      clear hab hlL hin
      obtain ⟨y, hy⟩ : ∃ y, y = eAt x.P k := ⟨_, rfl⟩
      rw [← hy] at c0 c1 c2 HT HIn hS hlen hvl
      obtain ⟨kd, ya, yc, L, nt⟩ := y
      have HNt : Hid ((eAt x.P k).nt = nt) := by unfold Hid; rw [← hy]
      clear hy
      simp only at c0 c1 c2 HT HIn hlen hvl
      generalize varsB [] (posB (x.P.take k)) = out at HRow HT hlen
      obtain ⟨va, vc, e0, -, -⟩ := rdS_owns HRow.out.1
      subst e0
      have hLs : L.length ≤ 1048576 := hS.2.1
      have hsep := fun q hq => (HRow.out.1.lt q hq).2
      go_wp2_with fail
      refine (specVarsOf_any kd ya yc L nt _ HIn.out hS.2.2 hLs).mono ?_
      rintro e w3 ⟨⟨v3, rfl, ho3⟩, hb3⟩
      obtain ⟨al, cl, rfl, hrl, -⟩ := rdS_owns ho3
      have HRow3 := hide (HRow.out.later hb3)
      have HL3 := hide (fun q hq => ho3.lt q hq)
      have HRl := hide hrl
      have HSep := hide hsep
      have c2' : w3.cell? ⟨b, off + k * 3 + 2, none⟩ = some (.bool nt) := by rw [hb3.cell (World.block_lt_of_cell? wo _ c2)]; exact c2
      have a2' := boxk_cell (box_below HX.out HRow3.out.2 hzz) 2 _ rfl
      clear hb3 c0 c1 c2 a2 HRow HIn hS ho3 hrl hsep
      generalize varsL L = l at HT HRl HL3 hvl
      have hll : l.length ≤ 1048576 := by omega
      cases nt
      · rw [if_neg (by simp)] at HT
        have HEl : Hid (adds out (l.take l.length) = adds out l) := by unfold Hid; rw [List.take_length]
        go_wp2
        go_loopw [3, 6] (fun v i wi => ∃ (j : Nat), j ≤ l.length ∧ i = .int .i64 j ∧ RowS w1 v (adds out (l.take j)) wi ∧ (∀ q, v.ownBlock = some q → q < wo.heap.size ∨ w3.heap.size ≤ q) ∧ w3.heap.size ≤ wi.heap.size ∧ ∀ q, wo.heap.size ≤ q → q < w3.heap.size → wi.heap[q]? = w3.heap[q]?) (fun _ i _ => l.length - (intOf i).toNat)
        case atStart => exact ⟨0, Nat.zero_le _, rfl, HRow3.out, fun q hq => .inl (HSep.out q hq), Nat.le_refl _, fun q _ _ => rfl⟩
        case round =>
          obtain ⟨j, hj, rfl, hrow, hsep, hsz, hsame⟩ := hrel
          have HRw := hide hrow
          have HSp := hide hsep
          have HSm := hide hsame
          clear hrow hsep hsame
          have d2 := boxk_cell (box_below HX.out HRw.out.2 hzz) 2 _ rfl
          rw [HAb.out] at d2
          have d3 : wr.cell? ⟨b, off + k * 3 + 2, none⟩ = some (.bool false) := by
            have hp := ((hr.p.below b0).below HRw.out.2).cells (by have := HN.out; omega)
            obtain ⟨b', off', hab', -, hc'⟩ := hp
            obtain ⟨-, -, hc2, -⟩ := hc' k (by rw [HN.out]; exact hlt)
            rw [HAb.out] at hab'
            simp only [Option.some.injEq, Addr.mk.injEq, and_true] at hab'
            rw [← hab'.1, ← hab'.2, HNt.out] at hc2
            exact hc2
          by_cases hjl : j < l.length
          · obtain ⟨va2, vc2, e0, r3, -⟩ := rdS_owns HRw.out.1
            subst e0
            obtain ⟨bl, ol, hal, hblw, hcl⟩ := HRl.out.open (by omega)
            have hcl := hcl j hjl
            have hbl : wo.heap.size ≤ bl ∧ bl < w3.heap.size := HL3.out bl (by rw [hal]; rfl)
            rw [← cell_same (w := w3) (w' := wr) (p := ⟨bl, ol + j, none⟩) (HSm.out bl hbl.1 hbl.2)] at hcl
            rw [hal]
            have HTk := hide (adds_take (l := out) hjl)
            have hal2 := adds_len out (l.take j)
            rw [List.length_take] at hal2
            generalize sAt l j = s at hcl HTk
            generalize adds out (l.take j) = o2 at HRw HTk hal2 r3 HSp
            have HAl := hide hal
            clear hal
            cases hh : hasS o2 s
            · rw [addS_no hh] at HTk
              have H4 := hide (HRw.out.alloc (.cells #[.string s] 9))
              have HSrc := hide (srcS wr s)
              have HZ4 := H4.out.2.size
              go_wp2_with fail
              refine (l6Has_any va2 o2.length vc2 o2 s _ rfl r3 (by omega)).mono ?_
              rintro e w5 ⟨rfl, rfl⟩
              rw [hh]
              clear HRw r3
              go_wp2_with (at_builtin; refine wpList_append_lies _ rfl (.tmp 43) (.tmp 48) 72 rfl w1.heap.size 9 i0 (.string ⟨#[]⟩) 1 16 Tryz.underlying72 hi hz0 hz1 hz2 rfl (by omega) (.slice va2 o2.length vc2) o2.length (valsS o2) rfl H4.out.1 ⟨w5.heap.size, 0, none⟩ 1 1 [.string s] ?hx rfl HSrc.out (oneS s) (by omega) (by unfold maxLen; omega) (by omega) HZ4 _ rfl ?_)
              case hx => simp [Act.eval]
              intro g5 c5 w6 ho5 hg5 hat5 hlt5
              have HF : Hid (RowS w1 (.slice (some ⟨g5, 0, none⟩) (o2.length + 1) c5) (adds out (l.take (j + 1))) w6) := by
                refine ⟨?_, H4.out.2.grown hg5 HZ4 (fun k hk => (H4.out.1.lt k hk).1)⟩
                rw [HTk.out, ← valsS_snoc, List.length_append]
                exact ho5
              have HSp2 : Hid (∀ q, (Value.slice (some ⟨g5, 0, none⟩) (o2.length + 1) c5).ownBlock = some q → q < wo.heap.size ∨ w3.heap.size ≤ q) := fun q hq => by
                simp only [Value.ownBlock, Option.some.injEq] at hq
                subst hq
                rcases hat5 with h | h
                · exact HSp.out _ h
                · have hz := (below_al w5 (.cells #[.string s] 9)).size
                  right; omega
              have hsz6 : w3.heap.size ≤ w6.heap.size := by have := hg5.size; simp at this; omega
              have HSm6 : Hid (∀ q, wo.heap.size ≤ q → q < w3.heap.size → w6.heap[q]? = w3.heap[q]?) := fun q h1 h2 => by
                rw [hg5.block q (by simp; omega) (fun e => by rcases HSp.out q e.symm with h | h <;> omega)]
                rw [← HSm.out q h1 h2]
                exact (below_al w5 _).block q (by omega)
              clear ho5 hg5 hat5 hlt5 HSrc H4 HZ4 HTk HSp HSm hsz
              go_wp2
              go_roundw
              case rel => exact ⟨j + 1, by omega, by go_num, HF.out, HSp2.out, hsz6, HSm6.out⟩
              case measure => simp [intOf]; omega
            · rw [addS_yes hh] at HTk
              go_wp2_with fail
              refine (l6Has_any va2 o2.length vc2 o2 s _ rfl r3 (by omega)).mono ?_
              rintro e w5 ⟨rfl, rfl⟩
              rw [hh]
              clear r3
              go_wp2
              go_roundw
              case rel => exact ⟨j + 1, by omega, by go_num, by rw [HTk.out]; exact HRw.out, HSp.out, hsz, HSm.out⟩
              case measure => simp [intOf]; omega
          · obtain rfl : j = l.length := by omega
            rw [HEl.out] at HRw
            go_wp2
            go_roundw
            case rel => exact ⟨k + 1, by omega, by go_num, by rw [HT.out]; exact HRw.out⟩
            case measure => simp [intOf]; omega
      · rw [if_pos rfl] at HT
        rw [HAb.out] at a2'
        by_cases h0 : 0 < l.length
        · go_wp2
          go_rounds 1
          go_roundw
          case rel => exact ⟨k + 1, by omega, by go_num, by rw [HT.out]; exact HRow3.out⟩
          case measure => simp [intOf]; omega
        · go_wp2
          go_rounds 1
          go_roundw
          case rel => exact ⟨k + 1, by omega, by go_num, by rw [HT.out]; exact HRow3.out⟩
          case measure => simp [intOf]; omega
    · obtain rfl : k = x.nP := by omega
      rw [HE.out] at HRow
      have HF := hide (HRow.out.from b0)
      clear HRow
      go_wp2
      go_ret
      exact ⟨⟨_, rfl, HF.out.1⟩, HF.out.2⟩
end Go.Proofs.YtcfhpcbkdpgboaaGreatDoor
