/-
  The laws' own marks on rows of Acts: they write into that row and its elements' lists alone.
-/
import Derived.Test.YtfgigcdfmkfkjaaJMarkExpr
import Derived.Test.YtfgigcdfmkfkjaaJoined2
import Derived.Test.YtfgigcdfmkfkjaaJoined1
namespace Go.Proofs.Ytfgigcdfmkfkjaa
open Go.RowKit
set_option linter.unusedVariables false

def QE.wt (x : QE) : Nat := 4 + 11 * x.L.length
theorem QE.wt_sz (x : QE) : x.wt ≤ 11 * (x.sz + 1) := by unfold QE.wt QE.sz; omega
theorem markExprS_i (q cap : Nat) (x : Int) (k0 : Nat) (L : List X11) (w : World) (hx : x = (k0 : Int)) (ho : OwnK 206 X11.cs 11 w q cap L) (hn : L.length ≤ 2097152) (hk : k0 ≤ 33554500) :
    Calls Try.prog 109 #[.slice (some ⟨q, 0, none⟩) L.length cap, .int .i64 x] w fun e w' => ∃ r : Nat, e = .returned (.int .i64 (r : Int)) ∧ r = k0 + 11 * L.length ∧ w.grownBy w' (some q) := by
  subst hx
  exact (markExprS_any q cap k0 L w ho hn hk).mono fun e w' h => ⟨_, h.1, rfl, h.2.2⟩
/-- the row, but for what of the j-th element is no list -/
def HoldQE (W : World) (g cp n : Nat) (K : List QE) (j : Nat) : Prop := ∃ KC, KC.length = n ∧ W.ownsRow 0 166 5 (.slice (some ⟨g, 0, none⟩) n cp) n (rowOf QE.cs KC) ∧ (eAt KC j).a = (eAt K j).a ∧ (eAt KC j).cap = (eAt K j).cap ∧ (eAt KC j).L = (eAt K j).L ∧ ∀ i, j + 1 ≤ i → i < n → eAt KC i = eAt K i
section
variable {W W' : World} {g cp n j : Nat} {K : List QE}
theorem HoldQE.cell (h : HoldQE W g cp n K j) (o : Nat) (ho : o < 5) (hj : j < n) : ∃ u, W.cell? ⟨g, j * 5 + o, none⟩ = some u := by
  obtain ⟨KC, hl, hw, -⟩ := h
  rw [hw.cellAt (j * 5 + o) (by omega), List.getElem?_eq_getElem (by rw [rowOf_length QE.len, hl]; omega)]
  exact ⟨_, rfl⟩
theorem HoldQE.frozen (h : HoldQE W g cp n K j) (p : Nat) : W.frozen? ⟨g, p, none⟩ = false := by obtain ⟨KC, hl, hw, -⟩ := h; exact hw.frozenAt p
theorem HoldQE.list (h : HoldQE W g cp n K j) (hj : j < n) : W.cell? ⟨g, j * 5 + 2, none⟩ = some (.slice (eAt K j).a (eAt K j).L.length (eAt K j).cap) := by
  obtain ⟨KC, hl, hw, e1, e2, e3, -⟩ := h
  have hg := rowOf_get QE.len KC j 2 (by rw [hl]; exact hj) (by omega)
  rw [hw.cellAt (j * 5 + 2) (by omega), hg, ← eAt_in (by rw [hl]; exact hj), ← e1, ← e2, ← e3]
  rfl
theorem HoldQE.later (h : HoldQE W g cp n K j) (hb : Below W.heap.size W W') : HoldQE W' g cp n K j := by obtain ⟨KC, hl, hw, r⟩ := h; exact ⟨KC, hl, ownsRow_below' hw hb, r⟩
theorem HoldQE.other (h : HoldQE W g cp n K j) {q : Nat} (hg : W.grownBy W' (some q)) (hq : g ≠ q) : HoldQE W' g cp n K j := by obtain ⟨KC, hl, hw, r⟩ := h; exact ⟨KC, hl, World.ownsRow.kept hw hg (.inr (by simp [Value.ownBlock]; exact hq)), r⟩
theorem HoldQE.lt (h : HoldQE W g cp n K j) : g < W.heap.size := by obtain ⟨KC, hl, hw, r⟩ := h; exact (hw.lt g rfl).2
theorem HoldQE.set_K (h : HoldQE W g cp n K j) (hj : j < n) (v : Int) : HoldQE (W.setCell ⟨g, j * 5, none⟩ (.int .i64 v)) g cp n K j ∧ W.grownBy (W.setCell ⟨g, j * 5, none⟩ (.int .i64 v)) (some g) := by
  obtain ⟨KC, hl, hw, e1, e2, e3, r⟩ := h
  have s := hw.stored (j * 5) (.int .i64 v)
  rw [rowOf_set_QE_K v KC j (by rw [hl]; exact hj)] at s
  refine ⟨⟨_, by rw [List.length_set, hl], s.1, ?_, ?_, ?_, fun i h1 h2 => ?_⟩, s.2⟩
  · rw [eAt_set (by rw [hl]; exact hj), if_pos rfl]; exact e1
  · rw [eAt_set (by rw [hl]; exact hj), if_pos rfl]; exact e2
  · rw [eAt_set (by rw [hl]; exact hj), if_pos rfl]; exact e3
  · rw [eAt_set (by rw [hl]; exact hj), if_neg (by omega)]; exact r i h1 h2
theorem HoldQE.set_nm (h : HoldQE W g cp n K j) (hj : j < n) (v : ByteArray) : HoldQE (W.setCell ⟨g, j * 5 + 1, none⟩ (.string v)) g cp n K j ∧ W.grownBy (W.setCell ⟨g, j * 5 + 1, none⟩ (.string v)) (some g) := by
  obtain ⟨KC, hl, hw, e1, e2, e3, r⟩ := h
  have s := hw.stored (j * 5 + 1) (.string v)
  rw [rowOf_set_QE_nm v KC j (by rw [hl]; exact hj)] at s
  refine ⟨⟨_, by rw [List.length_set, hl], s.1, ?_, ?_, ?_, fun i h1 h2 => ?_⟩, s.2⟩
  · rw [eAt_set (by rw [hl]; exact hj), if_pos rfl]; exact e1
  · rw [eAt_set (by rw [hl]; exact hj), if_pos rfl]; exact e2
  · rw [eAt_set (by rw [hl]; exact hj), if_pos rfl]; exact e3
  · rw [eAt_set (by rw [hl]; exact hj), if_neg (by omega)]; exact r i h1 h2
theorem HoldQE.set_N (h : HoldQE W g cp n K j) (hj : j < n) (v : Int) : HoldQE (W.setCell ⟨g, j * 5 + 3, none⟩ (.int .i64 v)) g cp n K j ∧ W.grownBy (W.setCell ⟨g, j * 5 + 3, none⟩ (.int .i64 v)) (some g) := by
  obtain ⟨KC, hl, hw, e1, e2, e3, r⟩ := h
  have s := hw.stored (j * 5 + 3) (.int .i64 v)
  rw [rowOf_set_QE_N v KC j (by rw [hl]; exact hj)] at s
  refine ⟨⟨_, by rw [List.length_set, hl], s.1, ?_, ?_, ?_, fun i h1 h2 => ?_⟩, s.2⟩
  · rw [eAt_set (by rw [hl]; exact hj), if_pos rfl]; exact e1
  · rw [eAt_set (by rw [hl]; exact hj), if_pos rfl]; exact e2
  · rw [eAt_set (by rw [hl]; exact hj), if_pos rfl]; exact e3
  · rw [eAt_set (by rw [hl]; exact hj), if_neg (by omega)]; exact r i h1 h2
theorem HoldQE.set_un (h : HoldQE W g cp n K j) (hj : j < n) (v : ByteArray) : HoldQE (W.setCell ⟨g, j * 5 + 4, none⟩ (.string v)) g cp n K j ∧ W.grownBy (W.setCell ⟨g, j * 5 + 4, none⟩ (.string v)) (some g) := by
  obtain ⟨KC, hl, hw, e1, e2, e3, r⟩ := h
  have s := hw.stored (j * 5 + 4) (.string v)
  rw [rowOf_set_QE_un v KC j (by rw [hl]; exact hj)] at s
  refine ⟨⟨_, by rw [List.length_set, hl], s.1, ?_, ?_, ?_, fun i h1 h2 => ?_⟩, s.2⟩
  · rw [eAt_set (by rw [hl]; exact hj), if_pos rfl]; exact e1
  · rw [eAt_set (by rw [hl]; exact hj), if_pos rfl]; exact e2
  · rw [eAt_set (by rw [hl]; exact hj), if_pos rfl]; exact e3
  · rw [eAt_set (by rw [hl]; exact hj), if_neg (by omega)]; exact r i h1 h2
theorem HoldQE.start {w : World} {lo hi : Nat} {s : Nat → Nat} (h : MkD 166 QE.cs 5 InAct w lo hi g cp K s j W) (hj : j < K.length) : HoldQE W g cp K.length K j := by
  obtain ⟨KC, hl, hw, r⟩ := h.row
  have e := r j (Nat.le_refl _) hj
  rw [OwnK, hl] at hw
  exact ⟨KC, hl, hw, by rw [e], by rw [e], by rw [e], fun i h1 h2 => r i (by omega) h2⟩
theorem HoldQE.fin (h : HoldQE W g cp K.length K j) : ∃ K', K'.length = K.length ∧ OwnK 166 QE.cs 5 W g cp K' ∧ ∀ i, j + 1 ≤ i → i < K.length → eAt K' i = eAt K i := by
  obtain ⟨KC, hl, hw, -, -, -, r⟩ := h
  exact ⟨KC, hl, by rw [OwnK, hl]; exact hw, r⟩
end

set_option maxRecDepth 100000 in
set_option maxHeartbeats 3200000 in
theorem markActS_any (g cp k0 lo hi : Nat) (K : List QE) (w : World) (h0 : OwnActS w lo hi g cp K K.length) (hn : K.length ≤ 1048580) (hl : ∀ x ∈ K, x.L.length ≤ 1048576) (hk : k0 + (K.map QE.wt).sum ≤ 33554000) :
    Calls Try.prog 71 #[.slice (some ⟨g, 0, none⟩) K.length cp, .int .i64 (k0 : Int)] w fun e w' =>
      (∃ r : Nat, e = .returned (.int .i64 (r : Int)) ∧ r = k0 + (K.map QE.wt).sum) ∧ Out lo hi w w' := by
  obtain ⟨s, hs, hin⟩ := h0.bnd
  have hlow := h0.low
  have hlth := h0.lth
  have htop := h0.top
  have hM0 : MkD 166 QE.cs 5 InAct w lo hi g cp K s 0 w := ⟨⟨K, rfl, h0.own, fun _ _ _ => rfl⟩, fun i _ hi' => (hin i hi').2, Out.refl _ _ _⟩
  obtain ⟨n, hN⟩ : ∃ n, n = K.length := ⟨_, rfl⟩
  rw [← hN] at hn ⊢
  have HN := hide hN
  have HS := hide hs
  have HI : Hid (∀ i, i < K.length → s i ≤ s (i + 1)) := fun i hi' => (hin i hi').1
  have HL := hide hl
  have HK := hide hk
  have HLim := hide (And.intro hlow (And.intro hlth htop))
  clear hN hs hin hl hk h0 hlow hlth htop
  go_enter Try.func71, Try.ntmps71
  go_wp2
  go_loopw [1, 5] (fun kk i wr => ∃ (j m : Nat), j ≤ n ∧ i = .int .i64 j ∧ m = k0 + totW QE.wt K j ∧ kk = .int .i64 (m : Int) ∧ MkD 166 QE.cs 5 InAct w lo hi g cp K s j wr) (fun _ i _ => n - (intOf i).toNat)
  case atStart => exact ⟨0, k0, Nat.zero_le _, rfl, by rw [totW_zero]; rfl, rfl, hM0⟩
  case round =>
    clear hM0
    obtain ⟨j, m, hj, rfl, hm, rfl, hmk⟩ := hrel
    have HM := hide hm
    have HMk := hide hmk
    have hm2 : m ≤ 33554000 := by
      have h1 := totW_le QE.wt K j
      have h2 := HK.out
      omega
    clear hm hmk
    by_cases hlt : j < n
    · have hjK : j < K.length := by rw [← HN.out]; exact hlt
      have hH := HoldQE.start HMk.out hjK
      rw [← HN.out] at hH
      obtain ⟨q, hqa, hq1, hq2, hqo⟩ := HMk.out.inn j (Nat.le_refl _) hjK
      have hgs := (HS.out j (Nat.le_of_lt hjK)).1
      have hLj : (eAt K j).L.length ≤ 1048576 := by rw [eAt_in hjK]; exact HL.out _ (List.getElem_mem _)
      have hr2 : m + (eAt K j).wt ≤ 33554000 := by
        have h1 := totW_step (wt := QE.wt) hjK
        have h2 := totW_le QE.wt K (j + 1)
        have h3 := HK.out
        have h4 := HM.out
        omega
      unfold QE.wt at hr2
      have HQ := hide (And.intro hq1 hq2)
      have HGS := hide hgs
      have HQO := hide hqo
      have hqg : g ≠ q := by omega
      clear hq1 hq2 hqo hgs
      have hG := World.grownBy.refl wr (some g)
      obtain ⟨u0, m0⟩ := hH.cell 0 (by omega) hlt
      rw [Nat.add_zero] at m0
      have f0 := hH.frozen (j * 5)
      have s0 := hH.set_K hlt ((m : Int))
      have k0 := s0.1
      replace hG := grown_tt hG s0.2
      clear s0
      go_wp2_with fail
      generalize wr.setCell ⟨g, j * 5, none⟩ (.int .i64 ((m : Int))) = w1 at k0 hG
      refine (markText_i ((m : Int) + 1) (m + 1) _ (by omega) (by omega)).mono ?_
      rintro e w2 ⟨rfl, hb⟩
      have h2 := k0.later hb
      replace hG := grown_belowM hG hb
      clear hb k0
      obtain ⟨u1, m1⟩ := h2.cell 1 (by omega) hlt
      have f1 := h2.frozen (j * 5 + 1)
      have s1 := h2.set_nm hlt (markT (m + 1))
      have k1 := s1.1
      replace hG := grown_tt hG s1.2
      clear s1
      have l1 := k1.list hlt
      rw [hqa] at l1
      go_wp2_with fail
      generalize w2.setCell ⟨g, j * 5 + 1, none⟩ (.string (markT (m + 1))) = w3 at k1 l1 hG
      refine (markExprS_i q _ ((m : Int) + 1 + 1) (m + 2) _ _ (by omega) (HQO.out.grown hG (Ne.symm hqg)) (by omega) (by omega)).mono ?_
      rintro e w4 ⟨r, rfl, hr, g4⟩
      have hO := (Out2.of (a := s j) (b := s (j + 1)) hG).inner g4 HQ.out.1 HQ.out.2
      have h4 := k1.other g4 hqg
      have hr4 : r ≤ 33554400 := by omega
      have hr3 : Hid (r = m + 2 + 11 * (eAt K j).L.length) := hr
      clear hG l1 k1 g4 hr
      obtain ⟨u3, m3⟩ := h4.cell 3 (by omega) hlt
      have f3 := h4.frozen (j * 5 + 3)
      have s3 := h4.set_N hlt ((r : Int))
      have k3 := s3.1
      replace hO := hO.at s3.2
      clear s3
      go_wp2_with fail
      generalize w4.setCell ⟨g, j * 5 + 3, none⟩ (.int .i64 ((r : Int))) = w5 at k3 hO
      refine (markText_i ((r : Int) + 1) (r + 1) _ (by omega) (by omega)).mono ?_
      rintro e w6 ⟨rfl, hb⟩
      have h6 := k3.later hb
      replace hO := hO.below hb
      clear hb k3
      obtain ⟨u4, m4⟩ := h6.cell 4 (by omega) hlt
      have f4 := h6.frozen (j * 5 + 4)
      have s4 := h6.set_un hlt (markT (r + 1))
      have k4 := s4.1
      replace hO := hO.at s4.2
      clear s4
      have HFin : Hid (MkD 166 QE.cs 5 InAct w lo hi g cp K s (j + 1) (w6.setCell ⟨g, j * 5 + 4, none⟩ (.string (markT (r + 1))))) := by
        refine HMk.out.step innAct HS.out HI.out HLim.out.1 HLim.out.2.1 HLim.out.2.2 hjK hO ?_
        rw [HN.out] at k4
        exact k4.fin
      have HR : Hid (r + 2 = k0 + totW QE.wt K (j + 1)) := by
        unfold Hid
        rw [totW_step hjK, hr3.out, HM.out]; unfold QE.wt; omega
      clear hO HMk k4
      go_wp2
      go_roundw
      case rel => exact ⟨j + 1, r + 2, by omega, by go_num, HR.out, by go_num, HFin.out⟩
      case measure => simp [intOf]; omega
    · obtain rfl : j = n := by omega
      have HE : Hid (m = k0 + (K.map QE.wt).sum) := by unfold Hid; rw [HM.out, ← totW_end, HN.out]
      go_wp2
      go_ret
      exact ⟨⟨m, rfl, HE.out⟩, HMk.out.out⟩
end Go.Proofs.Ytfgigcdfmkfkjaa
