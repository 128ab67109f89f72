/-
  The laws' own marks on rows of Pats: they write into that row and its elements' lists alone.
-/
import Derived.Test.YtfgigcdfmkfkjaaJMarkArg
import Derived.Test.YtfgigcdfmkfkjaaJoined2
import Derived.Test.YtfgigcdfmkfkjaaJoined1
namespace Go.Proofs.Ytfgigcdfmkfkjaa
open Go.RowKit
set_option linter.unusedVariables false

def PE.wt (x : PE) : Nat := 2 + 5 * x.L.length
theorem PE.wt_sz (x : PE) : x.wt ≤ 5 * (x.sz + 1) := by unfold PE.wt PE.sz; omega
theorem markArgS_i (q cap : Nat) (x : Int) (k0 : Nat) (L : List A5) (w : World) (hx : x = (k0 : Int)) (ho : OwnK 157 A5.cs 5 w q cap L) (hn : L.length ≤ 2097152) (hk : k0 ≤ 33554500) :
    Calls Try.prog 108 #[.slice (some ⟨q, 0, none⟩) L.length cap, .int .i64 x] w fun e w' => ∃ r : Nat, e = .returned (.int .i64 (r : Int)) ∧ r = k0 + 5 * L.length ∧ w.grownBy w' (some q) := by
  subst hx
  exact (markArgS_any q cap k0 L w ho hn hk).mono fun e w' h => ⟨_, h.1, rfl, h.2.2⟩
/-- the row, but for what of the j-th element is no list -/
def HoldPE (W : World) (g cp n : Nat) (K : List PE) (j : Nat) : Prop := ∃ KC, KC.length = n ∧ W.ownsRow 0 79 3 (.slice (some ⟨g, 0, none⟩) n cp) n (rowOf PE.cs KC) ∧ (eAt KC j).a = (eAt K j).a ∧ (eAt KC j).cap = (eAt K j).cap ∧ (eAt KC j).L = (eAt K j).L ∧ ∀ i, j + 1 ≤ i → i < n → eAt KC i = eAt K i
section
variable {W W' : World} {g cp n j : Nat} {K : List PE}
theorem HoldPE.cell (h : HoldPE W g cp n K j) (o : Nat) (ho : o < 3) (hj : j < n) : ∃ u, W.cell? ⟨g, j * 3 + o, none⟩ = some u := by
  obtain ⟨KC, hl, hw, -⟩ := h
  rw [hw.cellAt (j * 3 + o) (by omega), List.getElem?_eq_getElem (by rw [rowOf_length PE.len, hl]; omega)]
  exact ⟨_, rfl⟩
theorem HoldPE.frozen (h : HoldPE W g cp n K j) (p : Nat) : W.frozen? ⟨g, p, none⟩ = false := by obtain ⟨KC, hl, hw, -⟩ := h; exact hw.frozenAt p
theorem HoldPE.list (h : HoldPE W g cp n K j) (hj : j < n) : W.cell? ⟨g, j * 3 + 1, none⟩ = some (.slice (eAt K j).a (eAt K j).L.length (eAt K j).cap) := by
  obtain ⟨KC, hl, hw, e1, e2, e3, -⟩ := h
  have hg := rowOf_get PE.len KC j 1 (by rw [hl]; exact hj) (by omega)
  rw [hw.cellAt (j * 3 + 1) (by omega), hg, ← eAt_in (by rw [hl]; exact hj), ← e1, ← e2, ← e3]
  rfl
theorem HoldPE.later (h : HoldPE W g cp n K j) (hb : Below W.heap.size W W') : HoldPE W' g cp n K j := by obtain ⟨KC, hl, hw, r⟩ := h; exact ⟨KC, hl, ownsRow_below' hw hb, r⟩
theorem HoldPE.other (h : HoldPE W g cp n K j) {q : Nat} (hg : W.grownBy W' (some q)) (hq : g ≠ q) : HoldPE W' g cp n K j := by obtain ⟨KC, hl, hw, r⟩ := h; exact ⟨KC, hl, World.ownsRow.kept hw hg (.inr (by simp [Value.ownBlock]; exact hq)), r⟩
theorem HoldPE.lt (h : HoldPE W g cp n K j) : g < W.heap.size := by obtain ⟨KC, hl, hw, r⟩ := h; exact (hw.lt g rfl).2
theorem HoldPE.set_kd (h : HoldPE W g cp n K j) (hj : j < n) (v : ByteArray) : HoldPE (W.setCell ⟨g, j * 3, none⟩ (.string v)) g cp n K j ∧ W.grownBy (W.setCell ⟨g, j * 3, none⟩ (.string v)) (some g) := by
  obtain ⟨KC, hl, hw, e1, e2, e3, r⟩ := h
  have s := hw.stored (j * 3) (.string v)
  rw [rowOf_set_PE_kd v KC j (by rw [hl]; exact hj)] at s
  refine ⟨⟨_, by rw [List.length_set, hl], s.1, ?_, ?_, ?_, fun i h1 h2 => ?_⟩, s.2⟩
  · rw [eAt_set (by rw [hl]; exact hj), if_pos rfl]; exact e1
  · rw [eAt_set (by rw [hl]; exact hj), if_pos rfl]; exact e2
  · rw [eAt_set (by rw [hl]; exact hj), if_pos rfl]; exact e3
  · rw [eAt_set (by rw [hl]; exact hj), if_neg (by omega)]; exact r i h1 h2
theorem HoldPE.set_nt (h : HoldPE W g cp n K j) (hj : j < n) (v : Bool) : HoldPE (W.setCell ⟨g, j * 3 + 2, none⟩ (.bool v)) g cp n K j ∧ W.grownBy (W.setCell ⟨g, j * 3 + 2, none⟩ (.bool v)) (some g) := by
  obtain ⟨KC, hl, hw, e1, e2, e3, r⟩ := h
  have s := hw.stored (j * 3 + 2) (.bool v)
  rw [rowOf_set_PE_nt v KC j (by rw [hl]; exact hj)] at s
  refine ⟨⟨_, by rw [List.length_set, hl], s.1, ?_, ?_, ?_, fun i h1 h2 => ?_⟩, s.2⟩
  · rw [eAt_set (by rw [hl]; exact hj), if_pos rfl]; exact e1
  · rw [eAt_set (by rw [hl]; exact hj), if_pos rfl]; exact e2
  · rw [eAt_set (by rw [hl]; exact hj), if_pos rfl]; exact e3
  · rw [eAt_set (by rw [hl]; exact hj), if_neg (by omega)]; exact r i h1 h2
theorem HoldPE.start {w : World} {lo hi : Nat} {s : Nat → Nat} (h : MkD 79 PE.cs 3 InPat w lo hi g cp K s j W) (hj : j < K.length) : HoldPE W g cp K.length K j := by
  obtain ⟨KC, hl, hw, r⟩ := h.row
  have e := r j (Nat.le_refl _) hj
  rw [OwnK, hl] at hw
  exact ⟨KC, hl, hw, by rw [e], by rw [e], by rw [e], fun i h1 h2 => r i (by omega) h2⟩
theorem HoldPE.fin (h : HoldPE W g cp K.length K j) : ∃ K', K'.length = K.length ∧ OwnK 79 PE.cs 3 W g cp K' ∧ ∀ i, j + 1 ≤ i → i < K.length → eAt K' i = eAt K i := by
  obtain ⟨KC, hl, hw, -, -, -, r⟩ := h
  exact ⟨KC, hl, by rw [OwnK, hl]; exact hw, r⟩
end

set_option maxRecDepth 100000 in
set_option maxHeartbeats 3200000 in
theorem markPatS_any (g cp k0 lo hi : Nat) (K : List PE) (w : World) (h0 : OwnPatS w lo hi g cp K K.length) (hn : K.length ≤ 1048580) (hl : ∀ x ∈ K, x.L.length ≤ 1048576) (hk : k0 + (K.map PE.wt).sum ≤ 33554000) :
    Calls Try.prog 69 #[.slice (some ⟨g, 0, none⟩) K.length cp, .int .i64 (k0 : Int)] w fun e w' =>
      (∃ r : Nat, e = .returned (.int .i64 (r : Int)) ∧ r = k0 + (K.map PE.wt).sum) ∧ Out lo hi w w' := by
  obtain ⟨s, hs, hin⟩ := h0.bnd
  have hlow := h0.low
  have hlth := h0.lth
  have htop := h0.top
  have hM0 : MkD 79 PE.cs 3 InPat w lo hi g cp K s 0 w := ⟨⟨K, rfl, h0.own, fun _ _ _ => rfl⟩, fun i _ hi' => (hin i hi').2, Out.refl _ _ _⟩
  obtain ⟨n, hN⟩ : ∃ n, n = K.length := ⟨_, rfl⟩
  rw [← hN] at hn ⊢
  have HN := hide hN
  have HS := hide hs
  have HI : Hid (∀ i, i < K.length → s i ≤ s (i + 1)) := fun i hi' => (hin i hi').1
  have HL := hide hl
  have HK := hide hk
  have HLim := hide (And.intro hlow (And.intro hlth htop))
  clear hN hs hin hl hk h0 hlow hlth htop
  go_enter Try.func69, Try.ntmps69
  go_wp2
  go_loopw [1, 5] (fun kk i wr => ∃ (j m : Nat), j ≤ n ∧ i = .int .i64 j ∧ m = k0 + totW PE.wt K j ∧ kk = .int .i64 (m : Int) ∧ MkD 79 PE.cs 3 InPat w lo hi g cp K s j wr) (fun _ i _ => n - (intOf i).toNat)
  case atStart => exact ⟨0, k0, Nat.zero_le _, rfl, by rw [totW_zero]; rfl, rfl, hM0⟩
  case round =>
    clear hM0
    obtain ⟨j, m, hj, rfl, hm, rfl, hmk⟩ := hrel
    have HM := hide hm
    have HMk := hide hmk
    have hm2 : m ≤ 33554000 := by
      have h1 := totW_le PE.wt K j
      have h2 := HK.out
      omega
    clear hm hmk
    by_cases hlt : j < n
    · have hjK : j < K.length := by rw [← HN.out]; exact hlt
      have hH := HoldPE.start HMk.out hjK
      rw [← HN.out] at hH
      obtain ⟨q, hqa, hq1, hq2, hqo⟩ := HMk.out.inn j (Nat.le_refl _) hjK
      have hgs := (HS.out j (Nat.le_of_lt hjK)).1
      have hLj : (eAt K j).L.length ≤ 1048576 := by rw [eAt_in hjK]; exact HL.out _ (List.getElem_mem _)
      have hr2 : m + (eAt K j).wt ≤ 33554000 := by
        have h1 := totW_step (wt := PE.wt) hjK
        have h2 := totW_le PE.wt K (j + 1)
        have h3 := HK.out
        have h4 := HM.out
        omega
      unfold PE.wt at hr2
      have HQ := hide (And.intro hq1 hq2)
      have HGS := hide hgs
      have HQO := hide hqo
      have hqg : g ≠ q := by omega
      clear hq1 hq2 hqo hgs
      go_wp2_with fail
      refine (markText_any m _ (by omega)).mono ?_
      rintro e w1 ⟨rfl, hb⟩
      have h1 := hH.later hb
      have hG := grown_belowM (World.grownBy.refl wr (some g)) hb
      clear hb hH
      obtain ⟨u0, m0⟩ := h1.cell 0 (by omega) hlt
      rw [Nat.add_zero] at m0
      have f0 := h1.frozen (j * 3)
      have s0 := h1.set_kd hlt (markT m)
      have k0 := s0.1
      replace hG := grown_tt hG s0.2
      clear s0
      have l1 := k0.list hlt
      rw [hqa] at l1
      go_wp2_with fail
      generalize w1.setCell ⟨g, j * 3, none⟩ (.string (markT m)) = w2 at k0 l1 hG
      refine (markArgS_i q _ ((m : Int) + 1) (m + 1) _ _ (by omega) (HQO.out.grown hG (Ne.symm hqg)) (by omega) (by omega)).mono ?_
      rintro e w3 ⟨r, rfl, hr, g3⟩
      have hO := (Out2.of (a := s j) (b := s (j + 1)) hG).inner g3 HQ.out.1 HQ.out.2
      have h3 := k0.other g3 hqg
      have hr4 : r ≤ 33554400 := by omega
      have hr3 : Hid (r = m + 1 + 5 * (eAt K j).L.length) := hr
      clear hG l1 k0 g3 hr
      obtain ⟨u2, m2⟩ := h3.cell 2 (by omega) hlt
      have f2 := h3.frozen (j * 3 + 2)
      have hb2 := fun b : Bool => h3.set_nt hlt b
      have HFin : Hid (∀ b : Bool, MkD 79 PE.cs 3 InPat w lo hi g cp K s (j + 1) (w3.setCell ⟨g, j * 3 + 2, none⟩ (.bool b))) := fun b => by
        refine HMk.out.step innPat HS.out HI.out HLim.out.1 HLim.out.2.1 HLim.out.2.2 hjK (hO.at (hb2 b).2) ?_
        have := (hb2 b).1
        rw [HN.out] at this
        exact this.fin
      have HR : Hid (r + 1 = k0 + totW PE.wt K (j + 1)) := by
        unfold Hid
        rw [totW_step hjK, hr3.out, HM.out]; unfold PE.wt; omega
      clear hO HMk hb2 h3
      go_wp2
      go_roundw
      case rel => exact ⟨j + 1, r + 1, by omega, by go_num, HR.out, by go_num, HFin.out _⟩
      case measure => simp [intOf]; omega
    · obtain rfl : j = n := by omega
      have HE : Hid (m = k0 + (K.map PE.wt).sum) := by unfold Hid; rw [HM.out, ← totW_end, HN.out]
      go_wp2
      go_ret
      exact ⟨⟨m, rfl, HE.out⟩, HMk.out.out⟩
end Go.Proofs.Ytfgigcdfmkfkjaa
