/-
  Texts of this claim joined into one: StoreS, AssS, L2Num, TabT, ValT, TxV, FactT, FactTS, Bytes, Bits, Num, Enc, TextR, Dec, EncT, EncV, ValR, ParseP, Atoi, Loose, ParseI, ParseS, Parse.
-/
import Derived.Test.YtaflokfgbmlmaadDoorJoined2
import Derived.Test.YtaflokfgbmlmaadDoorJoined1
import Derived.Deep.RegionWith
import Derived.Deep.RegionHeld3
import Derived.Test.YtaflokfgbmlmaadDoorJBox
import Derived.Test.YtaflokfgbmlmaadDoorJValP
import Derived.Lib.ItoaLen
import Derived.Laws.IdiomStrings
import Derived.Test.YtaflokfgbmlmaadDoorJPlain
import Derived.Lib.AppendIntMem
import Derived.Lib.SmallJoins
import Derived.Test.YtaflokfgbmlmaadDoorShelf
import Derived.Test.YtaflokfgbmlmaadDoorJLawFact
import Derived.Lib.Join
import Derived.Deep.AppendLies
import Derived.OpenShut
import Derived.BigQuiet
import Derived.Deep.QuietTactic
import Derived.Laws.BitsAllLaws
import Derived.Lib.AppendStr
import Derived.ProofKit
import Derived.Below
import Derived.Lib.SlicesS
import Derived.Test.YtaflokfgbmlmaadDoorJWhole
import Derived.Test.YtaflokfgbmlmaadDoorJV3
/-
  What the model's StoreOk answers: storeB.
-/
namespace Go.Proofs.YtaflokfgbmlmaadDoor
open Go.RowKit
set_option linter.unusedVariables false

theorem keep6P {P : World → Prop} {W w' : World} {p0 p1 p2 p3 p4 p5 : Addr} {v0 v1 v2 v3 v4 v5 : Value} (hP : ∀ {W W' : World}, P W → Below W.heap.size W W' → P W') (hb : Below W.heap.size W w')
    (h : W.cell? p0 = some v0 ∧ W.cell? p1 = some v1 ∧ W.cell? p2 = some v2 ∧ W.cell? p3 = some v3 ∧ W.cell? p4 = some v4 ∧ W.cell? p5 = some v5 ∧ P W) :
    w'.cell? p0 = some v0 ∧ w'.cell? p1 = some v1 ∧ w'.cell? p2 = some v2 ∧ w'.cell? p3 = some v3 ∧ w'.cell? p4 = some v4 ∧ w'.cell? p5 = some v5 ∧ P w' := by
  obtain ⟨h0, h1, h2, h3, h4, h5, h6⟩ := h
  have k : ∀ {a : Addr} {v : Value}, W.cell? a = some v → w'.cell? a = some v := fun {a v} h => by rw [hb.cell (World.block_lt_of_cell? W _ h)]; exact h
  exact ⟨k h0, k h1, k h2, k h3, k h4, k h5, hP h6 hb⟩
theorem keep5P {P : World → Prop} {W w' : World} {p0 p1 p2 p3 p4 : Addr} {v0 v1 v2 v3 v4 : Value} (hP : ∀ {W W' : World}, P W → Below W.heap.size W W' → P W') (hb : Below W.heap.size W w')
    (h : W.cell? p0 = some v0 ∧ W.cell? p1 = some v1 ∧ W.cell? p2 = some v2 ∧ W.cell? p3 = some v3 ∧ W.cell? p4 = some v4 ∧ P W) :
    w'.cell? p0 = some v0 ∧ w'.cell? p1 = some v1 ∧ w'.cell? p2 = some v2 ∧ w'.cell? p3 = some v3 ∧ w'.cell? p4 = some v4 ∧ P w' := by
  obtain ⟨h0, h1, h2, h3, h4, h6⟩ := h
  have k : ∀ {a : Addr} {v : Value}, W.cell? a = some v → w'.cell? a = some v := fun {a v} h => by rw [hb.cell (World.block_lt_of_cell? W _ h)]; exact h
  exact ⟨k h0, k h1, k h2, k h3, k h4, hP h6 hb⟩
theorem l1In_s (x a b : Int) (w : World) : Calls Tryd.prog 30 #[.int .i64 x, .int .i64 a, .int .i64 b] w fun e w' => e = .returned (.bool (inB x a b)) ∧ w' = w := by
  by_cases h1 : a ≤ x
  · by_cases h2 : x ≤ b
    · rw [inB_t ⟨h1, h2⟩]
      go_enter Tryd.func30, Tryd.ntmps30
      go_wp2
      go_ret
      exact ⟨rfl, rfl⟩
    · rw [inB_f (fun h => h2 h.2)]
      go_enter Tryd.func30, Tryd.ntmps30
      go_wp2
      go_ret
      exact ⟨rfl, rfl⟩
  · rw [inB_f (fun h => h1 h.1)]
    go_enter Tryd.func30, Tryd.ntmps30
    go_wp2
    go_ret
    exact ⟨rfl, rfl⟩

set_option maxRecDepth 100000 in
set_option maxHeartbeats 64000000 in
theorem specStoreOk_any (a : Option Addr) (n cap : Nat) (nx : Int) (J : List It) (w : World) (hr : RdI w a J) (hJ : J.length = n) (hn : n ≤ 1048580) (hs : ∀ i, i < J.length → okI (iAt J i)) (hl : ∀ i, i < J.length → (iAt J i).L.length ≤ 1048580) :
    Calls Tryd.prog 8 #[.agg #[.slice a n cap, .int .i64 nx]] w fun e w' => e = .returned (.bool (storeB nx J)) ∧ Below w.heap.size w w' := by
  have b0 := below_al w (.cells #[.slice a n cap, .int .i64 nx] 29)
  have HNo : Hid (¬ (1 ≤ nx ∧ nx ≤ 1000000 ∧ n ≤ 40) → storeB nx J = false) := fun h => storeB_no (fun hr => h (by rw [← hJ]; exact hr.1))
  have hA := box2_new w (.slice a n cap) (.int .i64 nx) 29
  cases hin : inB nx 1 1000000
  · have HF := hide (HNo.out (fun h => by rw [inB_t ⟨h.1, h.2.1⟩] at hin; cases hin))
    go_enter Tryd.func8, Tryd.ntmps8
    go_wp2_with (go_at_call 30; refine (l1In_s _ _ _ _).mono ?_; rw [hin]; rintro e w' ⟨rfl, rfl⟩)
    go_ret
    exact ⟨ret_bool HF.out.symm, b0⟩
  by_cases h40 : (40 : Int) < (n : Int)
  · have HF := hide (HNo.out (by omega))
    go_enter Tryd.func8, Tryd.ntmps8
    go_wp2_with (go_at_call 30; refine (l1In_s _ _ _ _).mono ?_; rw [hin]; rintro e w' ⟨rfl, rfl⟩)
    go_ret
    exact ⟨ret_bool HF.out.symm, b0⟩
  have hin2 : 1 ≤ nx ∧ nx ≤ 1000000 := by unfold inB at hin; simpa using hin
  have H0 : Hid (1 ≤ nx ∧ nx ≤ 1000000 ∧ J.length ≤ 40) := ⟨hin2.1, hin2.2, by rw [hJ]; omega⟩
  have HJ := hide hJ
  have HS := hide hs
  have HL := hide hl
  have HIn := hide hin
  clear hJ hs hl hin hin2 HNo
  go_enter Tryd.func8, Tryd.ntmps8
  go_wp2_with (go_at_call 30; refine (l1In_s _ _ _ _).mono ?_; rw [HIn.out]; rintro e w' ⟨rfl, rfl⟩)
  generalize w.alloc (.cells #[.slice a n cap, .int .i64 nx] 29) = w1 at b0 hA ⊢
  obtain ⟨s0, s1, -, -⟩ := box2_cell hA
  have hzA := (Array.getElem?_eq_some_iff.1 hA).1
  replace hr := hr.below b0
  clear hA
  go_loopw [3] (fun i wr => ∃ (k : Nat), k ≤ n ∧ i = .int .i64 k ∧ (∀ j, j < k → okAt J nx j ∧ idP (J.map It.pl) (iAt J j).kd (iAt J j).L = (iAt J j).id) ∧ Below w1.heap.size w1 wr) (fun i _ => n - (intOf i).toNat)
  case atStart => exact ⟨0, Nat.zero_le _, rfl, fun j hj => absurd hj (Nat.not_lt_zero _), Below.refl _ _⟩
  case round =>
    obtain ⟨k, hk, rfl, hok, hbel⟩ := hrel
    have HOk := hide hok
    clear hok
    rw [← hbel.cell (p := ⟨w.heap.size, 0, none⟩) hzA] at s0
    rw [← hbel.cell (p := ⟨w.heap.size, 1, none⟩) hzA] at s1
    have hB : Below w.heap.size w wr := b0.trans (hbel.mono b0.size)
    by_cases hlt : k < n
    · obtain ⟨b2, o2, e2, hbw2, hc2⟩ := (hr.below hbel).open (by rw [HJ.out]; omega)
      obtain ⟨c0, c1, c2, hv⟩ := hc2 k (by rw [HJ.out]; exact hlt)
      have hkJ : k < J.length := by rw [HJ.out]; exact hlt
      have HSk := hide (HS.out k hkJ)
      have HLk := hide (HL.out k hkJ)
      have HW : Hid (¬ okAt J nx k → storeB nx J = false) := wrong_at hkJ
      have HWi : Hid (idP (J.map It.pl) (iAt J k).kd (iAt J k).L ≠ (iAt J k).id → storeB nx J = false) := wrong_id hkJ
      have HOkk : Hid (prevId J k < (iAt J k).id → (iAt J k).id < nx → factB (iAt J k).kd (iAt J k).L = true → okAt J nx k) := fun h1 h2 h3 => ⟨h1, h2, h3⟩
      have HNo : Hid (¬ (prevId J k < (iAt J k).id ∧ (iAt J k).id < nx ∧ factB (iAt J k).kd (iAt J k).L = true) → ¬ okAt J nx k) := fun h1 h2 => h1 h2
      have hpos : 0 ≤ prevId J k ∧ (0 < k → wr.cell? ⟨b2, o2 + (k - 1) * 3, none⟩ = some (.int .i64 (prevId J k))) := by
        constructor
        · unfold prevId
          split
          · exact Int.le_refl _
          · have := (ids_up (J := J) (nx := nx) (n := k) (by omega) (fun j hj => (HOk.out j hj).1)).1 (k - 1) (by omega); omega
        · intro h0
          have := (hc2 (k - 1) (by omega)).1
          unfold prevId
          rw [if_neg (by omega)]
          exact this
      obtain ⟨hpos, hpc⟩ := hpos
      have HZ : Hid (k = 0 → prevId J k = 0) := fun h => by unfold prevId; rw [if_pos h]
      have hrw := hr.below hbel
      clear hc2 hkJ
      subst e2
      obtain ⟨p, hp⟩ : ∃ p, p = prevId J k := ⟨_, rfl⟩
      rw [← hp] at HOkk HNo hpos hpc HZ
      clear hp
      obtain ⟨R, hR⟩ : ∃ R, idP (J.map It.pl) (iAt J k).kd (iAt J k).L = R := ⟨_, rfl⟩
      have HR := hide hR
      rw [hR] at HWi
      clear hR
      obtain ⟨x, hx⟩ : ∃ x, x = iAt J k := ⟨_, rfl⟩
      have HX := hide hx
      rw [← hx] at c0 c1 c2 hv HSk HLk HOkk HNo HR HWi
      clear hx
      obtain ⟨id, kd, va, vc, L⟩ := x
      simp only at c0 c1 c2 hv HSk HLk HOkk HNo HR HWi
      have ba := below_al wr (.cells #[.int .i64 id, .string kd, .slice va L.length vc] 54)
      have HBox := hide (box_new wr (.int .i64 id) (.string kd) (.slice va L.length vc) 54)
      have hB1 : Below w.heap.size w (wr.alloc (.cells #[.int .i64 id, .string kd, .slice va L.length vc] 54)) := hB.trans (ba.mono hB.size)
      have hb1 : Below w1.heap.size w1 (wr.alloc (.cells #[.int .i64 id, .string kd, .slice va L.length vc] 54)) := hbel.trans (ba.mono hbel.size)
      have s0' := kept0 ba s0
      have s1' := kept0 ba s1
      have hv1 := hv.below ba
      have hr1 := hrw.below ba
      obtain ⟨x0, x1, x2, -, -, -⟩ := box_cell HBox.out
      have hSF : ∀ {W W' : World}, (RdI W (some ⟨b2, o2, none⟩) J ∧ RdV W va L ∧ Below w1.heap.size w1 W ∧ (0 < k → W.cell? ⟨b2, o2 + (k - 1) * 3, none⟩ = some (.int .i64 p))) → Below W.heap.size W W' → (RdI W' (some ⟨b2, o2, none⟩) J ∧ RdV W' va L ∧ Below w1.heap.size w1 W' ∧ (0 < k → W'.cell? ⟨b2, o2 + (k - 1) * 3, none⟩ = some (.int .i64 p))) := fun h hb => ⟨h.1.below hb, h.2.1.below hb, h.2.2.1.trans (hb.mono h.2.2.1.size), fun h0 => kept0 hb (h.2.2.2 h0)⟩
      have hpc' := fun h0 => kept0 ba (hpc h0)
      go_wp2_with fail
      generalize wr.alloc (.cells #[.int .i64 id, .string kd, .slice va L.length vc] 54) = w2 at s0' s1' hv1 hr1 x0 x1 x2 hB1 hb1 hpc' ⊢
      refine wp_region_held_drew (S := (fun W => W.cell? ⟨w.heap.size, 0, none⟩ = some (.slice (some ⟨b2, o2, none⟩) n cap) ∧ W.cell? ⟨w.heap.size, 1, none⟩ = some (.int .i64 nx) ∧ W.cell? ⟨wr.heap.size, 0, none⟩ = some (.int .i64 id) ∧ W.cell? ⟨wr.heap.size, 1, none⟩ = some (.string kd) ∧ W.cell? ⟨wr.heap.size, 2, none⟩ = some (.slice va L.length vc) ∧ (RdI W (some ⟨b2, o2, none⟩) J ∧ RdV W va L ∧ Below w1.heap.size w1 W ∧ (0 < k → W.cell? ⟨b2, o2 + (k - 1) * 3, none⟩ = some (.int .i64 p))))) (by kernel_rfl) ⟨s0', s1', x0, x1, x2, hSF ⟨hr1, hv1, hb1, hpc'⟩ ((Below.refl _ _).drew)⟩ (fun hHeld => ?_)
      refine wpAnyH_take (i := 0) (oi := Oper.mk (some 27) _ _ _ _ _) (v := ?v1) rfl (by kernel_rfl) (by kernel_rfl) (by kernel_rfl) (fun _ _ _ h => h) (Or.inl ⟨by rfl, ?y1⟩) hHeld ?r1
      case y1 => (intro W hSW; obtain ⟨q0, q1, q2, q3, q4, -⟩ := hSW; go_simp; try with_reducible rfl)
      simp only [Act.put, List.setIfInBounds_toArray, List.set_cons_zero, List.set_cons_succ]
      refine wpAnyH_take (i := 1) (oi := Oper.mk (some 28) _ _ _ _ _) (v := ?v2) rfl (by kernel_rfl) (by kernel_rfl) (by kernel_rfl) (fun _ _ _ h => h) (Or.inl ⟨by rfl, ?y2⟩) hHeld ?r2
      case y2 => (intro W hSW; obtain ⟨q0, q1, q2, q3, q4, -⟩ := hSW; go_simp; try with_reducible rfl)
      simp only [Act.put, List.setIfInBounds_toArray, List.set_cons_zero, List.set_cons_succ]
      refine wpAnyH_ready (rs := [2]) (by kernel_rfl) (by simp) (AllReadyH.cons (o := Oper.mk (some 29) _ _ _ _ _) rfl (fun K hK => ?_) AllReadyH.nil)
      go_simp
      refine (specFactOk_any kd va vc L _ HSk.out.1 hHeld.2.2.2.2.2.2.1 HSk.out.2.2 HLk.out).mono ?_
      rintro e w3 ⟨rfl, hb3⟩
      refine hK.out _ _ (keep5P hSF hb3 hHeld) (fun hHeld => ?_)
      clear hK K
      cases hf : factB kd L
      · have HF := hide (HW.out (HNo.out (fun h => by rw [hf] at h; exact absurd h.2.2 (by simp))))
        clear hf
        refine wpAnyH_take (i := 3) (oi := Oper.mk (some 30) _ _ _ _ _) (v := ?v3) rfl (by kernel_rfl) (by kernel_rfl) (by kernel_rfl) (fun _ _ _ h => h) (Or.inl ⟨by rfl, ?y3⟩) hHeld ?r3
        case y3 => (intro W hSW; obtain ⟨q0, q1, q2, q3, q4, -⟩ := hSW; go_simp; try with_reducible rfl)
        simp only [Act.put, List.setIfInBounds_toArray, List.set_cons_zero, List.set_cons_succ]
        refine wpAnyH_take (i := 4) (oi := Oper.mk (some 31) _ _ _ _ _) (v := ?v4) rfl (by kernel_rfl) (by kernel_rfl) (by kernel_rfl) (fun _ _ _ h => h) (Or.inl ⟨by rfl, ?y4⟩) hHeld ?r4
        case y4 => (intro W hSW; obtain ⟨q0, q1, q2, q3, q4, -⟩ := hSW; go_simp; try with_reducible rfl)
        simp only [Act.put, List.setIfInBounds_toArray, List.set_cons_zero, List.set_cons_succ]
        refine wpAnyH_take (i := 5) (oi := Oper.mk (some 32) _ _ _ _ _) (v := undef) rfl (by kernel_rfl) (by kernel_rfl) (by kernel_rfl) (fun _ _ _ h => h) (Or.inr ⟨by rfl, rfl⟩) hHeld ?_
        simp only [Act.put, List.setIfInBounds_toArray, List.set_cons_zero, List.set_cons_succ]
        refine wpAnyH_take (i := 6) (oi := Oper.mk (some 33) _ _ _ _ _) (v := undef) rfl (by kernel_rfl) (by kernel_rfl) (by kernel_rfl) (fun _ _ _ h => h) (Or.inr ⟨by rfl, rfl⟩) hHeld ?_
        simp only [Act.put, List.setIfInBounds_toArray, List.set_cons_zero, List.set_cons_succ]
        refine wpAnyH_take (i := 7) (oi := Oper.mk (some 34) _ _ _ _ _) (v := undef) rfl (by kernel_rfl) (by kernel_rfl) (by kernel_rfl) (fun _ _ _ h => h) (Or.inr ⟨by rfl, rfl⟩) hHeld ?_
        simp only [Act.put, List.setIfInBounds_toArray, List.set_cons_zero, List.set_cons_succ]
        refine wpAnyH_take (i := 8) (oi := Oper.mk (some 35) _ _ _ _ _) (v := ?v5) rfl (by kernel_rfl) (by kernel_rfl) (by kernel_rfl) (fun _ _ _ h => h) (Or.inl ⟨by rfl, ?y5⟩) hHeld ?r5
        case y5 => (intro W hSW; obtain ⟨q0, q1, q2, q3, q4, -⟩ := hSW; go_simp; try with_reducible rfl)
        simp only [Act.put, List.setIfInBounds_toArray, List.set_cons_zero, List.set_cons_succ]
        refine wpAnyH_take (i := 9) (oi := Oper.mk (some 36) _ _ _ _ _) (v := ?v6) rfl (by kernel_rfl) (by kernel_rfl) (by kernel_rfl) (fun _ _ _ h => h) (Or.inl ⟨by rfl, ?y6⟩) hHeld ?r6
        case y6 => (intro W hSW; obtain ⟨q0, q1, q2, q3, q4, -⟩ := hSW; go_simp; try with_reducible rfl)
        simp only [Act.put, List.setIfInBounds_toArray, List.set_cons_zero, List.set_cons_succ]
        refine wpAnyH_take (i := 10) (oi := Oper.mk (some 37) _ _ _ _ _) (v := undef) rfl (by kernel_rfl) (by kernel_rfl) (by kernel_rfl) (fun _ _ _ h => h) (Or.inr ⟨by rfl, rfl⟩) hHeld ?_
        simp only [Act.put, List.setIfInBounds_toArray, List.set_cons_zero, List.set_cons_succ]
        refine wpAnyH_take (i := 11) (oi := Oper.mk (some 38) _ _ _ _ _) (v := undef) rfl (by kernel_rfl) (by kernel_rfl) (by kernel_rfl) (fun _ _ _ h => h) (Or.inr ⟨by rfl, rfl⟩) hHeld ?_
        simp only [Act.put, List.setIfInBounds_toArray, List.set_cons_zero, List.set_cons_succ]
        refine wpAnyH_take (i := 12) (oi := Oper.mk (some 39) _ _ _ _ _) (v := undef) rfl (by kernel_rfl) (by kernel_rfl) (by kernel_rfl) (fun _ _ _ h => h) (Or.inr ⟨by rfl, rfl⟩) hHeld ?_
        simp only [Act.put, List.setIfInBounds_toArray, List.set_cons_zero, List.set_cons_succ]
        refine wpAnyH_take (i := 13) (oi := Oper.mk (some 40) _ _ _ _ _) (v := undef) rfl (by kernel_rfl) (by kernel_rfl) (by kernel_rfl) (fun _ _ _ h => h) (Or.inr ⟨by rfl, rfl⟩) hHeld ?_
        simp only [Act.put, List.setIfInBounds_toArray, List.set_cons_zero, List.set_cons_succ]
        refine wpAnyH_take (i := 14) (oi := Oper.mk (some 41) _ _ _ _ _) (v := undef) rfl (by kernel_rfl) (by kernel_rfl) (by kernel_rfl) (fun _ _ _ h => h) (Or.inr ⟨by rfl, rfl⟩) hHeld ?_
        simp only [Act.put, List.setIfInBounds_toArray, List.set_cons_zero, List.set_cons_succ]
        refine wpAnyH_take (i := 15) (oi := Oper.mk (some 42) _ _ _ _ _) (v := ?v7) rfl (by kernel_rfl) (by kernel_rfl) (by kernel_rfl) (fun _ _ _ h => h) (Or.inl ⟨by rfl, ?y7⟩) hHeld ?r7
        case y7 => (intro W hSW; obtain ⟨q0, q1, q2, q3, q4, -⟩ := hSW; go_simp; try with_reducible rfl)
        simp only [Act.put, List.setIfInBounds_toArray, List.set_cons_zero, List.set_cons_succ]
        refine wpAnyH_take (i := 16) (oi := Oper.mk (some 43) _ _ _ _ _) (v := ?v8) rfl (by kernel_rfl) (by kernel_rfl) (by kernel_rfl) (fun _ _ _ h => h) (Or.inl ⟨by rfl, ?y8⟩) hHeld ?r8
        case y8 => (intro W hSW; obtain ⟨q0, q1, q2, q3, q4, -⟩ := hSW; go_simp; try with_reducible rfl)
        simp only [Act.put, List.setIfInBounds_toArray, List.set_cons_zero, List.set_cons_succ]
        refine wpAnyH_take (i := 17) (oi := Oper.mk (some 44) _ _ _ _ _) (v := undef) rfl (by kernel_rfl) (by kernel_rfl) (by kernel_rfl) (fun _ _ _ h => h) (Or.inr ⟨by rfl, rfl⟩) hHeld ?_
        simp only [Act.put, List.setIfInBounds_toArray, List.set_cons_zero, List.set_cons_succ]
        refine wpAnyH_take (i := 18) (oi := Oper.mk (some 45) _ _ _ _ _) (v := undef) rfl (by kernel_rfl) (by kernel_rfl) (by kernel_rfl) (fun _ _ _ h => h) (Or.inr ⟨by rfl, rfl⟩) hHeld ?_
        simp only [Act.put, List.setIfInBounds_toArray, List.set_cons_zero, List.set_cons_succ]
        refine wpAnyH_take (i := 19) (oi := Oper.mk (some 46) _ _ _ _ _) (v := undef) rfl (by kernel_rfl) (by kernel_rfl) (by kernel_rfl) (fun _ _ _ h => h) (Or.inr ⟨by rfl, rfl⟩) hHeld ?_
        simp only [Act.put, List.setIfInBounds_toArray, List.set_cons_zero, List.set_cons_succ]
        refine wpAnyH_take (i := 20) (oi := Oper.mk (some 47) _ _ _ _ _) (v := undef) rfl (by kernel_rfl) (by kernel_rfl) (by kernel_rfl) (fun _ _ _ h => h) (Or.inr ⟨by rfl, rfl⟩) hHeld ?_
        simp only [Act.put, List.setIfInBounds_toArray, List.set_cons_zero, List.set_cons_succ]
        refine wpAnyH_take (i := 21) (oi := Oper.mk (some 48) _ _ _ _ _) (v := undef) rfl (by kernel_rfl) (by kernel_rfl) (by kernel_rfl) (fun _ _ _ h => h) (Or.inr ⟨by rfl, rfl⟩) hHeld ?_
        simp only [Act.put, List.setIfInBounds_toArray, List.set_cons_zero, List.set_cons_succ]
        refine wpAnyH_take (i := 22) (oi := Oper.mk (some 49) _ _ _ _ _) (v := undef) rfl (by kernel_rfl) (by kernel_rfl) (by kernel_rfl) (fun _ _ _ h => h) (Or.inr ⟨by rfl, rfl⟩) hHeld ?_
        simp only [Act.put, List.setIfInBounds_toArray, List.set_cons_zero, List.set_cons_succ]
        refine wpAnyH_take (i := 23) (oi := Oper.mk (some 50) _ _ _ _ _) (v := undef) rfl (by kernel_rfl) (by kernel_rfl) (by kernel_rfl) (fun _ _ _ h => h) (Or.inr ⟨by rfl, rfl⟩) hHeld ?_
        simp only [Act.put, List.setIfInBounds_toArray, List.set_cons_zero, List.set_cons_succ]
        refine wpAnyH_take (i := 24) (oi := Oper.mk (some 51) _ _ _ _ _) (v := undef) rfl (by kernel_rfl) (by kernel_rfl) (by kernel_rfl) (fun _ _ _ h => h) (Or.inr ⟨by rfl, rfl⟩) hHeld ?_
        simp only [Act.put, List.setIfInBounds_toArray, List.set_cons_zero, List.set_cons_succ]
        refine wpAnyH_take (i := 25) (oi := Oper.mk (some 52) _ _ _ _ _) (v := undef) rfl (by kernel_rfl) (by kernel_rfl) (by kernel_rfl) (fun _ _ _ h => h) (Or.inr ⟨by rfl, rfl⟩) hHeld ?_
        simp only [Act.put, List.setIfInBounds_toArray, List.set_cons_zero, List.set_cons_succ]
        refine wpAnyH_take (i := 26) (oi := Oper.mk (some 53) _ _ _ _ _) (v := undef) rfl (by kernel_rfl) (by kernel_rfl) (by kernel_rfl) (fun _ _ _ h => h) (Or.inr ⟨by rfl, rfl⟩) hHeld ?_
        simp only [Act.put, List.setIfInBounds_toArray, List.set_cons_zero, List.set_cons_succ]
        refine wpAnyH_take (i := 27) (oi := Oper.mk (some 54) _ _ _ _ _) (v := undef) rfl (by kernel_rfl) (by kernel_rfl) (by kernel_rfl) (fun _ _ _ h => h) (Or.inr ⟨by rfl, rfl⟩) hHeld ?_
        simp only [Act.put, List.setIfInBounds_toArray, List.set_cons_zero, List.set_cons_succ]
        refine wpAnyH_take (i := 28) (oi := Oper.mk (some 55) _ _ _ _ _) (v := undef) rfl (by kernel_rfl) (by kernel_rfl) (by kernel_rfl) (fun _ _ _ h => h) (Or.inr ⟨by rfl, rfl⟩) hHeld ?_
        simp only [Act.put, List.setIfInBounds_toArray, List.set_cons_zero, List.set_cons_succ]
        refine wpAnyH_take (i := 29) (oi := Oper.mk (some 56) _ _ _ _ _) (v := undef) rfl (by kernel_rfl) (by kernel_rfl) (by kernel_rfl) (fun _ _ _ h => h) (Or.inr ⟨by rfl, rfl⟩) hHeld ?_
        simp only [Act.put, List.setIfInBounds_toArray, List.set_cons_zero, List.set_cons_succ]
        refine wpAnyH_take (i := 30) (oi := Oper.mk (some 57) _ _ _ _ _) (v := undef) rfl (by kernel_rfl) (by kernel_rfl) (by kernel_rfl) (fun _ _ _ h => h) (Or.inr ⟨by rfl, rfl⟩) hHeld ?_
        simp only [Act.put, List.setIfInBounds_toArray, List.set_cons_zero, List.set_cons_succ]
        refine wpAnyH_take (i := 31) (oi := Oper.mk (some 58) _ _ _ _ _) (v := ?v9) rfl (by kernel_rfl) (by kernel_rfl) (by kernel_rfl) (fun _ _ _ h => h) (Or.inl ⟨by rfl, ?y9⟩) hHeld ?r9
        case y9 => (intro W hSW; obtain ⟨q0, q1, q2, q3, q4, -⟩ := hSW; go_simp; try with_reducible rfl)
        simp only [Act.put, List.setIfInBounds_toArray, List.set_cons_zero, List.set_cons_succ]
        refine wpAnyH_take (i := 32) (oi := Oper.mk (some 59) _ _ _ _ _) (v := ?v10) rfl (by kernel_rfl) (by kernel_rfl) (by kernel_rfl) (fun _ _ _ h => h) (Or.inl ⟨by rfl, ?y10⟩) hHeld ?r10
        case y10 => (intro W hSW; obtain ⟨q0, q1, q2, q3, q4, -⟩ := hSW; go_simp; try with_reducible rfl)
        simp only [Act.put, List.setIfInBounds_toArray, List.set_cons_zero, List.set_cons_succ]
        refine wpAnyH_take (i := 33) (oi := Oper.mk (some 60) _ _ _ _ _) (v := undef) rfl (by kernel_rfl) (by kernel_rfl) (by kernel_rfl) (fun _ _ _ h => h) (Or.inr ⟨by rfl, rfl⟩) hHeld ?_
        simp only [Act.put, List.setIfInBounds_toArray, List.set_cons_zero, List.set_cons_succ]
        refine wpAnyH_take (i := 34) (oi := Oper.mk (some 61) _ _ _ _ _) (v := undef) rfl (by kernel_rfl) (by kernel_rfl) (by kernel_rfl) (fun _ _ _ h => h) (Or.inr ⟨by rfl, rfl⟩) hHeld ?_
        simp only [Act.put, List.setIfInBounds_toArray, List.set_cons_zero, List.set_cons_succ]
        refine wpAnyH_take (i := 35) (oi := Oper.mk (some 62) _ _ _ _ _) (v := undef) rfl (by kernel_rfl) (by kernel_rfl) (by kernel_rfl) (fun _ _ _ h => h) (Or.inr ⟨by rfl, rfl⟩) hHeld ?_
        simp only [Act.put, List.setIfInBounds_toArray, List.set_cons_zero, List.set_cons_succ]
        refine wpAnyH_take (i := 36) (oi := Oper.mk (some 63) _ _ _ _ _) (v := undef) rfl (by kernel_rfl) (by kernel_rfl) (by kernel_rfl) (fun _ _ _ h => h) (Or.inr ⟨by rfl, rfl⟩) hHeld ?_
        simp only [Act.put, List.setIfInBounds_toArray, List.set_cons_zero, List.set_cons_succ]
        refine wpAnyH_take (i := 37) (oi := Oper.mk (some 64) _ _ _ _ _) (v := undef) rfl (by kernel_rfl) (by kernel_rfl) (by kernel_rfl) (fun _ _ _ h => h) (Or.inr ⟨by rfl, rfl⟩) hHeld ?_
        simp only [Act.put, List.setIfInBounds_toArray, List.set_cons_zero, List.set_cons_succ]
        refine wpAnyH_take (i := 38) (oi := Oper.mk (some 65) _ _ _ _ _) (v := undef) rfl (by kernel_rfl) (by kernel_rfl) (by kernel_rfl) (fun _ _ _ h => h) (Or.inr ⟨by rfl, rfl⟩) hHeld ?_
        simp only [Act.put, List.setIfInBounds_toArray, List.set_cons_zero, List.set_cons_succ]
        refine wpAnyH_take (i := 39) (oi := Oper.mk (some 66) _ _ _ _ _) (v := undef) rfl (by kernel_rfl) (by kernel_rfl) (by kernel_rfl) (fun _ _ _ h => h) (Or.inr ⟨by rfl, rfl⟩) hHeld ?_
        simp only [Act.put, List.setIfInBounds_toArray, List.set_cons_zero, List.set_cons_succ]
        refine wpAnyH_take (i := 40) (oi := Oper.mk (some 67) _ _ _ _ _) (v := ?v11) rfl (by kernel_rfl) (by kernel_rfl) (by kernel_rfl) (fun _ _ _ h => h) (Or.inl ⟨by rfl, ?y11⟩) hHeld ?r11
        case y11 => (intro W hSW; obtain ⟨q0, q1, q2, q3, q4, -⟩ := hSW; go_simp; try with_reducible rfl)
        simp only [Act.put, List.setIfInBounds_toArray, List.set_cons_zero, List.set_cons_succ]
        refine wpAnyH_done (by kernel_rfl) ?_ _
        have B3 : Below w.heap.size w w3 := hB1.trans ((below_dr hb3).mono hB1.size)
        go_wp2
        go_ret
        exact ⟨ret_bool HF.out.symm, B3⟩
      · have HFf := hide hf
        clear hf
        refine wpAnyH_take (i := 3) (oi := Oper.mk (some 30) _ _ _ _ _) (v := ?v12) rfl (by kernel_rfl) (by kernel_rfl) (by kernel_rfl) (fun _ _ _ h => h) (Or.inl ⟨by rfl, ?y12⟩) hHeld ?r12
        case y12 => (intro W hSW; obtain ⟨q0, q1, q2, q3, q4, -⟩ := hSW; go_simp; try with_reducible rfl)
        simp only [Act.put, List.setIfInBounds_toArray, List.set_cons_zero, List.set_cons_succ]
        refine wpAnyH_take (i := 4) (oi := Oper.mk (some 31) _ _ _ _ _) (v := ?v13) rfl (by kernel_rfl) (by kernel_rfl) (by kernel_rfl) (fun _ _ _ h => h) (Or.inl ⟨by rfl, ?y13⟩) hHeld ?r13
        case y13 => (intro W hSW; obtain ⟨q0, q1, q2, q3, q4, -⟩ := hSW; go_simp; try with_reducible rfl)
        simp only [Act.put, List.setIfInBounds_toArray, List.set_cons_zero, List.set_cons_succ]
        refine wpAnyH_take (i := 5) (oi := Oper.mk (some 32) _ _ _ _ _) (v := ?v14) rfl (by kernel_rfl) (by kernel_rfl) (by kernel_rfl) (fun _ _ _ h => h) (Or.inl ⟨by rfl, ?y14⟩) hHeld ?r14
        case y14 => (intro W hSW; obtain ⟨q0, q1, q2, q3, q4, -⟩ := hSW; go_simp; try with_reducible rfl)
        simp only [Act.put, List.setIfInBounds_toArray, List.set_cons_zero, List.set_cons_succ]
        refine wpAnyH_take (i := 6) (oi := Oper.mk (some 33) _ _ _ _ _) (v := ?v15) rfl (by kernel_rfl) (by kernel_rfl) (by kernel_rfl) (fun _ _ _ h => h) (Or.inl ⟨by rfl, ?y15⟩) hHeld ?r15
        case y15 => (intro W hSW; obtain ⟨q0, q1, q2, q3, q4, -⟩ := hSW; go_simp; try with_reducible rfl)
        simp only [Act.put, List.setIfInBounds_toArray, List.set_cons_zero, List.set_cons_succ]
        by_cases h1 : id < 1
        · have HF := hide (HW.out (HNo.out (fun h => by omega)))
          refine wpAnyH_take (i := 7) (oi := Oper.mk (some 34) _ _ _ _ _) (v := ?v16) rfl (by kernel_rfl) (by kernel_rfl) (by kernel_rfl) (fun _ _ _ h => h) (Or.inl ⟨by rfl, ?y16⟩) hHeld ?r16
          case y16 => (intro W hSW; obtain ⟨q0, q1, q2, q3, q4, -⟩ := hSW; go_simp; try with_reducible rfl)
          simp only [Act.put, List.setIfInBounds_toArray, List.set_cons_zero, List.set_cons_succ]
          refine wpAnyH_take (i := 8) (oi := Oper.mk (some 35) _ _ _ _ _) (v := ?v17) rfl (by kernel_rfl) (by kernel_rfl) (by kernel_rfl) (fun _ _ _ h => h) (Or.inl ⟨by rfl, ?y17⟩) hHeld ?r17
          case y17 => (intro W hSW; obtain ⟨q0, q1, q2, q3, q4, -⟩ := hSW; go_simp; try with_reducible rfl)
          simp only [Act.put, List.setIfInBounds_toArray, List.set_cons_zero, List.set_cons_succ]
          refine wpAnyH_take (i := 9) (oi := Oper.mk (some 36) _ _ _ _ _) (v := ?v18) rfl (by kernel_rfl) (by kernel_rfl) (by kernel_rfl) (fun _ _ _ h => h) (Or.inl ⟨by rfl, ?y18⟩) hHeld ?r18
          case y18 => (intro W hSW; obtain ⟨q0, q1, q2, q3, q4, -⟩ := hSW; go_simp; try with_reducible rfl)
          simp only [Act.put, List.setIfInBounds_toArray, List.set_cons_zero, List.set_cons_succ]
          refine wpAnyH_take (i := 10) (oi := Oper.mk (some 37) _ _ _ _ _) (v := undef) rfl (by kernel_rfl) (by kernel_rfl) (by kernel_rfl) (fun _ _ _ h => h) (Or.inr ⟨by rfl, rfl⟩) hHeld ?_
          simp only [Act.put, List.setIfInBounds_toArray, List.set_cons_zero, List.set_cons_succ]
          refine wpAnyH_take (i := 11) (oi := Oper.mk (some 38) _ _ _ _ _) (v := undef) rfl (by kernel_rfl) (by kernel_rfl) (by kernel_rfl) (fun _ _ _ h => h) (Or.inr ⟨by rfl, rfl⟩) hHeld ?_
          simp only [Act.put, List.setIfInBounds_toArray, List.set_cons_zero, List.set_cons_succ]
          refine wpAnyH_take (i := 12) (oi := Oper.mk (some 39) _ _ _ _ _) (v := undef) rfl (by kernel_rfl) (by kernel_rfl) (by kernel_rfl) (fun _ _ _ h => h) (Or.inr ⟨by rfl, rfl⟩) hHeld ?_
          simp only [Act.put, List.setIfInBounds_toArray, List.set_cons_zero, List.set_cons_succ]
          refine wpAnyH_take (i := 13) (oi := Oper.mk (some 40) _ _ _ _ _) (v := undef) rfl (by kernel_rfl) (by kernel_rfl) (by kernel_rfl) (fun _ _ _ h => h) (Or.inr ⟨by rfl, rfl⟩) hHeld ?_
          simp only [Act.put, List.setIfInBounds_toArray, List.set_cons_zero, List.set_cons_succ]
          refine wpAnyH_take (i := 14) (oi := Oper.mk (some 41) _ _ _ _ _) (v := undef) rfl (by kernel_rfl) (by kernel_rfl) (by kernel_rfl) (fun _ _ _ h => h) (Or.inr ⟨by rfl, rfl⟩) hHeld ?_
          simp only [Act.put, List.setIfInBounds_toArray, List.set_cons_zero, List.set_cons_succ]
          refine wpAnyH_take (i := 15) (oi := Oper.mk (some 42) _ _ _ _ _) (v := ?v19) rfl (by kernel_rfl) (by kernel_rfl) (by kernel_rfl) (fun _ _ _ h => h) (Or.inl ⟨by rfl, ?y19⟩) hHeld ?r19
          case y19 => (intro W hSW; obtain ⟨q0, q1, q2, q3, q4, -⟩ := hSW; go_simp; try with_reducible rfl)
          simp only [Act.put, List.setIfInBounds_toArray, List.set_cons_zero, List.set_cons_succ]
          refine wpAnyH_take (i := 16) (oi := Oper.mk (some 43) _ _ _ _ _) (v := ?v20) rfl (by kernel_rfl) (by kernel_rfl) (by kernel_rfl) (fun _ _ _ h => h) (Or.inl ⟨by rfl, ?y20⟩) hHeld ?r20
          case y20 => (intro W hSW; obtain ⟨q0, q1, q2, q3, q4, -⟩ := hSW; go_simp; try with_reducible rfl)
          simp only [Act.put, List.setIfInBounds_toArray, List.set_cons_zero, List.set_cons_succ]
          refine wpAnyH_take (i := 17) (oi := Oper.mk (some 44) _ _ _ _ _) (v := undef) rfl (by kernel_rfl) (by kernel_rfl) (by kernel_rfl) (fun _ _ _ h => h) (Or.inr ⟨by rfl, rfl⟩) hHeld ?_
          simp only [Act.put, List.setIfInBounds_toArray, List.set_cons_zero, List.set_cons_succ]
          refine wpAnyH_take (i := 18) (oi := Oper.mk (some 45) _ _ _ _ _) (v := undef) rfl (by kernel_rfl) (by kernel_rfl) (by kernel_rfl) (fun _ _ _ h => h) (Or.inr ⟨by rfl, rfl⟩) hHeld ?_
          simp only [Act.put, List.setIfInBounds_toArray, List.set_cons_zero, List.set_cons_succ]
          refine wpAnyH_take (i := 19) (oi := Oper.mk (some 46) _ _ _ _ _) (v := undef) rfl (by kernel_rfl) (by kernel_rfl) (by kernel_rfl) (fun _ _ _ h => h) (Or.inr ⟨by rfl, rfl⟩) hHeld ?_
          simp only [Act.put, List.setIfInBounds_toArray, List.set_cons_zero, List.set_cons_succ]
          refine wpAnyH_take (i := 20) (oi := Oper.mk (some 47) _ _ _ _ _) (v := undef) rfl (by kernel_rfl) (by kernel_rfl) (by kernel_rfl) (fun _ _ _ h => h) (Or.inr ⟨by rfl, rfl⟩) hHeld ?_
          simp only [Act.put, List.setIfInBounds_toArray, List.set_cons_zero, List.set_cons_succ]
          refine wpAnyH_take (i := 21) (oi := Oper.mk (some 48) _ _ _ _ _) (v := undef) rfl (by kernel_rfl) (by kernel_rfl) (by kernel_rfl) (fun _ _ _ h => h) (Or.inr ⟨by rfl, rfl⟩) hHeld ?_
          simp only [Act.put, List.setIfInBounds_toArray, List.set_cons_zero, List.set_cons_succ]
          refine wpAnyH_take (i := 22) (oi := Oper.mk (some 49) _ _ _ _ _) (v := undef) rfl (by kernel_rfl) (by kernel_rfl) (by kernel_rfl) (fun _ _ _ h => h) (Or.inr ⟨by rfl, rfl⟩) hHeld ?_
          simp only [Act.put, List.setIfInBounds_toArray, List.set_cons_zero, List.set_cons_succ]
          refine wpAnyH_take (i := 23) (oi := Oper.mk (some 50) _ _ _ _ _) (v := undef) rfl (by kernel_rfl) (by kernel_rfl) (by kernel_rfl) (fun _ _ _ h => h) (Or.inr ⟨by rfl, rfl⟩) hHeld ?_
          simp only [Act.put, List.setIfInBounds_toArray, List.set_cons_zero, List.set_cons_succ]
          refine wpAnyH_take (i := 24) (oi := Oper.mk (some 51) _ _ _ _ _) (v := undef) rfl (by kernel_rfl) (by kernel_rfl) (by kernel_rfl) (fun _ _ _ h => h) (Or.inr ⟨by rfl, rfl⟩) hHeld ?_
          simp only [Act.put, List.setIfInBounds_toArray, List.set_cons_zero, List.set_cons_succ]
          refine wpAnyH_take (i := 25) (oi := Oper.mk (some 52) _ _ _ _ _) (v := undef) rfl (by kernel_rfl) (by kernel_rfl) (by kernel_rfl) (fun _ _ _ h => h) (Or.inr ⟨by rfl, rfl⟩) hHeld ?_
          simp only [Act.put, List.setIfInBounds_toArray, List.set_cons_zero, List.set_cons_succ]
          refine wpAnyH_take (i := 26) (oi := Oper.mk (some 53) _ _ _ _ _) (v := undef) rfl (by kernel_rfl) (by kernel_rfl) (by kernel_rfl) (fun _ _ _ h => h) (Or.inr ⟨by rfl, rfl⟩) hHeld ?_
          simp only [Act.put, List.setIfInBounds_toArray, List.set_cons_zero, List.set_cons_succ]
          refine wpAnyH_take (i := 27) (oi := Oper.mk (some 54) _ _ _ _ _) (v := undef) rfl (by kernel_rfl) (by kernel_rfl) (by kernel_rfl) (fun _ _ _ h => h) (Or.inr ⟨by rfl, rfl⟩) hHeld ?_
          simp only [Act.put, List.setIfInBounds_toArray, List.set_cons_zero, List.set_cons_succ]
          refine wpAnyH_take (i := 28) (oi := Oper.mk (some 55) _ _ _ _ _) (v := undef) rfl (by kernel_rfl) (by kernel_rfl) (by kernel_rfl) (fun _ _ _ h => h) (Or.inr ⟨by rfl, rfl⟩) hHeld ?_
          simp only [Act.put, List.setIfInBounds_toArray, List.set_cons_zero, List.set_cons_succ]
          refine wpAnyH_take (i := 29) (oi := Oper.mk (some 56) _ _ _ _ _) (v := undef) rfl (by kernel_rfl) (by kernel_rfl) (by kernel_rfl) (fun _ _ _ h => h) (Or.inr ⟨by rfl, rfl⟩) hHeld ?_
          simp only [Act.put, List.setIfInBounds_toArray, List.set_cons_zero, List.set_cons_succ]
          refine wpAnyH_take (i := 30) (oi := Oper.mk (some 57) _ _ _ _ _) (v := undef) rfl (by kernel_rfl) (by kernel_rfl) (by kernel_rfl) (fun _ _ _ h => h) (Or.inr ⟨by rfl, rfl⟩) hHeld ?_
          simp only [Act.put, List.setIfInBounds_toArray, List.set_cons_zero, List.set_cons_succ]
          refine wpAnyH_take (i := 31) (oi := Oper.mk (some 58) _ _ _ _ _) (v := ?v21) rfl (by kernel_rfl) (by kernel_rfl) (by kernel_rfl) (fun _ _ _ h => h) (Or.inl ⟨by rfl, ?y21⟩) hHeld ?r21
          case y21 => (intro W hSW; obtain ⟨q0, q1, q2, q3, q4, -⟩ := hSW; go_simp; try with_reducible rfl)
          simp only [Act.put, List.setIfInBounds_toArray, List.set_cons_zero, List.set_cons_succ]
          refine wpAnyH_take (i := 32) (oi := Oper.mk (some 59) _ _ _ _ _) (v := ?v22) rfl (by kernel_rfl) (by kernel_rfl) (by kernel_rfl) (fun _ _ _ h => h) (Or.inl ⟨by rfl, ?y22⟩) hHeld ?r22
          case y22 => (intro W hSW; obtain ⟨q0, q1, q2, q3, q4, -⟩ := hSW; go_simp; try with_reducible rfl)
          simp only [Act.put, List.setIfInBounds_toArray, List.set_cons_zero, List.set_cons_succ]
          refine wpAnyH_take (i := 33) (oi := Oper.mk (some 60) _ _ _ _ _) (v := undef) rfl (by kernel_rfl) (by kernel_rfl) (by kernel_rfl) (fun _ _ _ h => h) (Or.inr ⟨by rfl, rfl⟩) hHeld ?_
          simp only [Act.put, List.setIfInBounds_toArray, List.set_cons_zero, List.set_cons_succ]
          refine wpAnyH_take (i := 34) (oi := Oper.mk (some 61) _ _ _ _ _) (v := undef) rfl (by kernel_rfl) (by kernel_rfl) (by kernel_rfl) (fun _ _ _ h => h) (Or.inr ⟨by rfl, rfl⟩) hHeld ?_
          simp only [Act.put, List.setIfInBounds_toArray, List.set_cons_zero, List.set_cons_succ]
          refine wpAnyH_take (i := 35) (oi := Oper.mk (some 62) _ _ _ _ _) (v := undef) rfl (by kernel_rfl) (by kernel_rfl) (by kernel_rfl) (fun _ _ _ h => h) (Or.inr ⟨by rfl, rfl⟩) hHeld ?_
          simp only [Act.put, List.setIfInBounds_toArray, List.set_cons_zero, List.set_cons_succ]
          refine wpAnyH_take (i := 36) (oi := Oper.mk (some 63) _ _ _ _ _) (v := undef) rfl (by kernel_rfl) (by kernel_rfl) (by kernel_rfl) (fun _ _ _ h => h) (Or.inr ⟨by rfl, rfl⟩) hHeld ?_
          simp only [Act.put, List.setIfInBounds_toArray, List.set_cons_zero, List.set_cons_succ]
          refine wpAnyH_take (i := 37) (oi := Oper.mk (some 64) _ _ _ _ _) (v := undef) rfl (by kernel_rfl) (by kernel_rfl) (by kernel_rfl) (fun _ _ _ h => h) (Or.inr ⟨by rfl, rfl⟩) hHeld ?_
          simp only [Act.put, List.setIfInBounds_toArray, List.set_cons_zero, List.set_cons_succ]
          refine wpAnyH_take (i := 38) (oi := Oper.mk (some 65) _ _ _ _ _) (v := undef) rfl (by kernel_rfl) (by kernel_rfl) (by kernel_rfl) (fun _ _ _ h => h) (Or.inr ⟨by rfl, rfl⟩) hHeld ?_
          simp only [Act.put, List.setIfInBounds_toArray, List.set_cons_zero, List.set_cons_succ]
          refine wpAnyH_take (i := 39) (oi := Oper.mk (some 66) _ _ _ _ _) (v := undef) rfl (by kernel_rfl) (by kernel_rfl) (by kernel_rfl) (fun _ _ _ h => h) (Or.inr ⟨by rfl, rfl⟩) hHeld ?_
          simp only [Act.put, List.setIfInBounds_toArray, List.set_cons_zero, List.set_cons_succ]
          refine wpAnyH_take (i := 40) (oi := Oper.mk (some 67) _ _ _ _ _) (v := ?v23) rfl (by kernel_rfl) (by kernel_rfl) (by kernel_rfl) (fun _ _ _ h => h) (Or.inl ⟨by rfl, ?y23⟩) hHeld ?r23
          case y23 => (intro W hSW; obtain ⟨q0, q1, q2, q3, q4, -⟩ := hSW; go_simp; try with_reducible rfl)
          simp only [Act.put, List.setIfInBounds_toArray, List.set_cons_zero, List.set_cons_succ]
          refine wpAnyH_done (by kernel_rfl) ?_ _
          have B3 : Below w.heap.size w w3 := hB1.trans ((below_dr hb3).mono hB1.size)
          go_wp2
          go_ret
          exact ⟨ret_bool HF.out.symm, B3⟩
        · have h1d : decide (id < 1) = false := by simpa using h1
          refine wpAnyH_take (i := 7) (oi := Oper.mk (some 34) _ _ _ _ _) (v := ?v24) rfl (by kernel_rfl) (by kernel_rfl) (by kernel_rfl) (fun _ _ _ h => h) (Or.inl ⟨by rfl, ?y24⟩) hHeld ?r24
          case y24 => (intro W hSW; obtain ⟨q0, q1, q2, q3, q4, -⟩ := hSW; go_simp; try with_reducible rfl)
          simp only [Act.put, List.setIfInBounds_toArray, List.set_cons_zero, List.set_cons_succ]
          refine wpAnyH_take (i := 8) (oi := Oper.mk (some 35) _ _ _ _ _) (v := ?v25) rfl (by kernel_rfl) (by kernel_rfl) (by kernel_rfl) (fun _ _ _ h => h) (Or.inl ⟨by rfl, ?y25⟩) hHeld ?r25
          case y25 => (intro W hSW; obtain ⟨q0, q1, q2, q3, q4, -⟩ := hSW; go_simp; try with_reducible rfl)
          simp only [Act.put, List.setIfInBounds_toArray, List.set_cons_zero, List.set_cons_succ]
          refine wpAnyH_take (i := 9) (oi := Oper.mk (some 36) _ _ _ _ _) (v := ?v26) rfl (by kernel_rfl) (by kernel_rfl) (by kernel_rfl) (fun _ _ _ h => h) (Or.inl ⟨by rfl, ?y26⟩) hHeld ?r26
          case y26 => (intro W hSW; obtain ⟨q0, q1, q2, q3, q4, -⟩ := hSW; go_simp; try with_reducible rfl)
          simp only [Act.put, List.setIfInBounds_toArray, List.set_cons_zero, List.set_cons_succ]
          refine wpAnyH_take (i := 10) (oi := Oper.mk (some 37) _ _ _ _ _) (v := ?v27) rfl (by kernel_rfl) (by kernel_rfl) (by kernel_rfl) (fun _ _ _ h => h) (Or.inl ⟨by rfl, ?y27⟩) hHeld ?r27
          case y27 => (intro W hSW; obtain ⟨q0, q1, q2, q3, q4, -⟩ := hSW; go_simp; try with_reducible rfl)
          simp only [Act.put, List.setIfInBounds_toArray, List.set_cons_zero, List.set_cons_succ]
          refine wpAnyH_take (i := 11) (oi := Oper.mk (some 38) _ _ _ _ _) (v := ?v28) rfl (by kernel_rfl) (by kernel_rfl) (by kernel_rfl) (fun _ _ _ h => h) (Or.inl ⟨by rfl, ?y28⟩) hHeld ?r28
          case y28 => (intro W hSW; obtain ⟨q0, q1, q2, q3, q4, -⟩ := hSW; go_simp; try with_reducible rfl)
          simp only [Act.put, List.setIfInBounds_toArray, List.set_cons_zero, List.set_cons_succ]
          refine wpAnyH_take (i := 12) (oi := Oper.mk (some 39) _ _ _ _ _) (v := ?v29) rfl (by kernel_rfl) (by kernel_rfl) (by kernel_rfl) (fun _ _ _ h => h) (Or.inl ⟨by rfl, ?y29⟩) hHeld ?r29
          case y29 => (intro W hSW; obtain ⟨q0, q1, q2, q3, q4, -⟩ := hSW; go_simp; try with_reducible rfl)
          simp only [Act.put, List.setIfInBounds_toArray, List.set_cons_zero, List.set_cons_succ]
          refine wpAnyH_take (i := 13) (oi := Oper.mk (some 40) _ _ _ _ _) (v := ?v30) rfl (by kernel_rfl) (by kernel_rfl) (by kernel_rfl) (fun _ _ _ h => h) (Or.inl ⟨by rfl, ?y30⟩) hHeld ?r30
          case y30 => (intro W hSW; obtain ⟨q0, q1, q2, q3, q4, -⟩ := hSW; go_simp; try with_reducible rfl)
          simp only [Act.put, List.setIfInBounds_toArray, List.set_cons_zero, List.set_cons_succ]
          by_cases h2 : nx ≤ id
          · have HF := hide (HW.out (HNo.out (fun h => by omega)))
            refine wpAnyH_take (i := 14) (oi := Oper.mk (some 41) _ _ _ _ _) (v := ?v31) rfl (by kernel_rfl) (by kernel_rfl) (by kernel_rfl) (fun _ _ _ h => h) (Or.inl ⟨by rfl, ?y31⟩) hHeld ?r31
            case y31 => (intro W hSW; obtain ⟨q0, q1, q2, q3, q4, -⟩ := hSW; go_simp; try with_reducible rfl)
            simp only [Act.put, List.setIfInBounds_toArray, List.set_cons_zero, List.set_cons_succ]
            refine wpAnyH_take (i := 15) (oi := Oper.mk (some 42) _ _ _ _ _) (v := ?v32) rfl (by kernel_rfl) (by kernel_rfl) (by kernel_rfl) (fun _ _ _ h => h) (Or.inl ⟨by rfl, ?y32⟩) hHeld ?r32
            case y32 => (intro W hSW; obtain ⟨q0, q1, q2, q3, q4, -⟩ := hSW; go_simp; try with_reducible rfl)
            simp only [Act.put, List.setIfInBounds_toArray, List.set_cons_zero, List.set_cons_succ]
            refine wpAnyH_take (i := 16) (oi := Oper.mk (some 43) _ _ _ _ _) (v := ?v33) rfl (by kernel_rfl) (by kernel_rfl) (by kernel_rfl) (fun _ _ _ h => h) (Or.inl ⟨by rfl, ?y33⟩) hHeld ?r33
            case y33 => (intro W hSW; obtain ⟨q0, q1, q2, q3, q4, -⟩ := hSW; go_simp; try with_reducible rfl)
            simp only [Act.put, List.setIfInBounds_toArray, List.set_cons_zero, List.set_cons_succ]
            refine wpAnyH_take (i := 17) (oi := Oper.mk (some 44) _ _ _ _ _) (v := undef) rfl (by kernel_rfl) (by kernel_rfl) (by kernel_rfl) (fun _ _ _ h => h) (Or.inr ⟨by rfl, rfl⟩) hHeld ?_
            simp only [Act.put, List.setIfInBounds_toArray, List.set_cons_zero, List.set_cons_succ]
            refine wpAnyH_take (i := 18) (oi := Oper.mk (some 45) _ _ _ _ _) (v := undef) rfl (by kernel_rfl) (by kernel_rfl) (by kernel_rfl) (fun _ _ _ h => h) (Or.inr ⟨by rfl, rfl⟩) hHeld ?_
            simp only [Act.put, List.setIfInBounds_toArray, List.set_cons_zero, List.set_cons_succ]
            refine wpAnyH_take (i := 19) (oi := Oper.mk (some 46) _ _ _ _ _) (v := undef) rfl (by kernel_rfl) (by kernel_rfl) (by kernel_rfl) (fun _ _ _ h => h) (Or.inr ⟨by rfl, rfl⟩) hHeld ?_
            simp only [Act.put, List.setIfInBounds_toArray, List.set_cons_zero, List.set_cons_succ]
            refine wpAnyH_take (i := 20) (oi := Oper.mk (some 47) _ _ _ _ _) (v := undef) rfl (by kernel_rfl) (by kernel_rfl) (by kernel_rfl) (fun _ _ _ h => h) (Or.inr ⟨by rfl, rfl⟩) hHeld ?_
            simp only [Act.put, List.setIfInBounds_toArray, List.set_cons_zero, List.set_cons_succ]
            refine wpAnyH_take (i := 21) (oi := Oper.mk (some 48) _ _ _ _ _) (v := undef) rfl (by kernel_rfl) (by kernel_rfl) (by kernel_rfl) (fun _ _ _ h => h) (Or.inr ⟨by rfl, rfl⟩) hHeld ?_
            simp only [Act.put, List.setIfInBounds_toArray, List.set_cons_zero, List.set_cons_succ]
            refine wpAnyH_take (i := 22) (oi := Oper.mk (some 49) _ _ _ _ _) (v := undef) rfl (by kernel_rfl) (by kernel_rfl) (by kernel_rfl) (fun _ _ _ h => h) (Or.inr ⟨by rfl, rfl⟩) hHeld ?_
            simp only [Act.put, List.setIfInBounds_toArray, List.set_cons_zero, List.set_cons_succ]
            refine wpAnyH_take (i := 23) (oi := Oper.mk (some 50) _ _ _ _ _) (v := undef) rfl (by kernel_rfl) (by kernel_rfl) (by kernel_rfl) (fun _ _ _ h => h) (Or.inr ⟨by rfl, rfl⟩) hHeld ?_
            simp only [Act.put, List.setIfInBounds_toArray, List.set_cons_zero, List.set_cons_succ]
            refine wpAnyH_take (i := 24) (oi := Oper.mk (some 51) _ _ _ _ _) (v := undef) rfl (by kernel_rfl) (by kernel_rfl) (by kernel_rfl) (fun _ _ _ h => h) (Or.inr ⟨by rfl, rfl⟩) hHeld ?_
            simp only [Act.put, List.setIfInBounds_toArray, List.set_cons_zero, List.set_cons_succ]
            refine wpAnyH_take (i := 25) (oi := Oper.mk (some 52) _ _ _ _ _) (v := undef) rfl (by kernel_rfl) (by kernel_rfl) (by kernel_rfl) (fun _ _ _ h => h) (Or.inr ⟨by rfl, rfl⟩) hHeld ?_
            simp only [Act.put, List.setIfInBounds_toArray, List.set_cons_zero, List.set_cons_succ]
            refine wpAnyH_take (i := 26) (oi := Oper.mk (some 53) _ _ _ _ _) (v := undef) rfl (by kernel_rfl) (by kernel_rfl) (by kernel_rfl) (fun _ _ _ h => h) (Or.inr ⟨by rfl, rfl⟩) hHeld ?_
            simp only [Act.put, List.setIfInBounds_toArray, List.set_cons_zero, List.set_cons_succ]
            refine wpAnyH_take (i := 27) (oi := Oper.mk (some 54) _ _ _ _ _) (v := undef) rfl (by kernel_rfl) (by kernel_rfl) (by kernel_rfl) (fun _ _ _ h => h) (Or.inr ⟨by rfl, rfl⟩) hHeld ?_
            simp only [Act.put, List.setIfInBounds_toArray, List.set_cons_zero, List.set_cons_succ]
            refine wpAnyH_take (i := 28) (oi := Oper.mk (some 55) _ _ _ _ _) (v := undef) rfl (by kernel_rfl) (by kernel_rfl) (by kernel_rfl) (fun _ _ _ h => h) (Or.inr ⟨by rfl, rfl⟩) hHeld ?_
            simp only [Act.put, List.setIfInBounds_toArray, List.set_cons_zero, List.set_cons_succ]
            refine wpAnyH_take (i := 29) (oi := Oper.mk (some 56) _ _ _ _ _) (v := undef) rfl (by kernel_rfl) (by kernel_rfl) (by kernel_rfl) (fun _ _ _ h => h) (Or.inr ⟨by rfl, rfl⟩) hHeld ?_
            simp only [Act.put, List.setIfInBounds_toArray, List.set_cons_zero, List.set_cons_succ]
            refine wpAnyH_take (i := 30) (oi := Oper.mk (some 57) _ _ _ _ _) (v := undef) rfl (by kernel_rfl) (by kernel_rfl) (by kernel_rfl) (fun _ _ _ h => h) (Or.inr ⟨by rfl, rfl⟩) hHeld ?_
            simp only [Act.put, List.setIfInBounds_toArray, List.set_cons_zero, List.set_cons_succ]
            refine wpAnyH_take (i := 31) (oi := Oper.mk (some 58) _ _ _ _ _) (v := ?v34) rfl (by kernel_rfl) (by kernel_rfl) (by kernel_rfl) (fun _ _ _ h => h) (Or.inl ⟨by rfl, ?y34⟩) hHeld ?r34
            case y34 => (intro W hSW; obtain ⟨q0, q1, q2, q3, q4, -⟩ := hSW; go_simp; try with_reducible rfl)
            simp only [Act.put, List.setIfInBounds_toArray, List.set_cons_zero, List.set_cons_succ]
            refine wpAnyH_take (i := 32) (oi := Oper.mk (some 59) _ _ _ _ _) (v := ?v35) rfl (by kernel_rfl) (by kernel_rfl) (by kernel_rfl) (fun _ _ _ h => h) (Or.inl ⟨by rfl, ?y35⟩) hHeld ?r35
            case y35 => (intro W hSW; obtain ⟨q0, q1, q2, q3, q4, -⟩ := hSW; go_simp; try with_reducible rfl)
            simp only [Act.put, List.setIfInBounds_toArray, List.set_cons_zero, List.set_cons_succ]
            refine wpAnyH_take (i := 33) (oi := Oper.mk (some 60) _ _ _ _ _) (v := undef) rfl (by kernel_rfl) (by kernel_rfl) (by kernel_rfl) (fun _ _ _ h => h) (Or.inr ⟨by rfl, rfl⟩) hHeld ?_
            simp only [Act.put, List.setIfInBounds_toArray, List.set_cons_zero, List.set_cons_succ]
            refine wpAnyH_take (i := 34) (oi := Oper.mk (some 61) _ _ _ _ _) (v := undef) rfl (by kernel_rfl) (by kernel_rfl) (by kernel_rfl) (fun _ _ _ h => h) (Or.inr ⟨by rfl, rfl⟩) hHeld ?_
            simp only [Act.put, List.setIfInBounds_toArray, List.set_cons_zero, List.set_cons_succ]
            refine wpAnyH_take (i := 35) (oi := Oper.mk (some 62) _ _ _ _ _) (v := undef) rfl (by kernel_rfl) (by kernel_rfl) (by kernel_rfl) (fun _ _ _ h => h) (Or.inr ⟨by rfl, rfl⟩) hHeld ?_
            simp only [Act.put, List.setIfInBounds_toArray, List.set_cons_zero, List.set_cons_succ]
            refine wpAnyH_take (i := 36) (oi := Oper.mk (some 63) _ _ _ _ _) (v := undef) rfl (by kernel_rfl) (by kernel_rfl) (by kernel_rfl) (fun _ _ _ h => h) (Or.inr ⟨by rfl, rfl⟩) hHeld ?_
            simp only [Act.put, List.setIfInBounds_toArray, List.set_cons_zero, List.set_cons_succ]
            refine wpAnyH_take (i := 37) (oi := Oper.mk (some 64) _ _ _ _ _) (v := undef) rfl (by kernel_rfl) (by kernel_rfl) (by kernel_rfl) (fun _ _ _ h => h) (Or.inr ⟨by rfl, rfl⟩) hHeld ?_
            simp only [Act.put, List.setIfInBounds_toArray, List.set_cons_zero, List.set_cons_succ]
            refine wpAnyH_take (i := 38) (oi := Oper.mk (some 65) _ _ _ _ _) (v := undef) rfl (by kernel_rfl) (by kernel_rfl) (by kernel_rfl) (fun _ _ _ h => h) (Or.inr ⟨by rfl, rfl⟩) hHeld ?_
            simp only [Act.put, List.setIfInBounds_toArray, List.set_cons_zero, List.set_cons_succ]
            refine wpAnyH_take (i := 39) (oi := Oper.mk (some 66) _ _ _ _ _) (v := undef) rfl (by kernel_rfl) (by kernel_rfl) (by kernel_rfl) (fun _ _ _ h => h) (Or.inr ⟨by rfl, rfl⟩) hHeld ?_
            simp only [Act.put, List.setIfInBounds_toArray, List.set_cons_zero, List.set_cons_succ]
            refine wpAnyH_take (i := 40) (oi := Oper.mk (some 67) _ _ _ _ _) (v := ?v36) rfl (by kernel_rfl) (by kernel_rfl) (by kernel_rfl) (fun _ _ _ h => h) (Or.inl ⟨by rfl, ?y36⟩) hHeld ?r36
            case y36 => (intro W hSW; obtain ⟨q0, q1, q2, q3, q4, -⟩ := hSW; go_simp; try with_reducible rfl)
            simp only [Act.put, List.setIfInBounds_toArray, List.set_cons_zero, List.set_cons_succ]
            refine wpAnyH_done (by kernel_rfl) ?_ _
            have B3 : Below w.heap.size w w3 := hB1.trans ((below_dr hb3).mono hB1.size)
            go_wp2
            go_ret
            exact ⟨ret_bool HF.out.symm, B3⟩
          · have h2d : decide (nx ≤ id) = false := by simpa using h2
            refine wpAnyH_take (i := 14) (oi := Oper.mk (some 41) _ _ _ _ _) (v := ?v37) rfl (by kernel_rfl) (by kernel_rfl) (by kernel_rfl) (fun _ _ _ h => h) (Or.inl ⟨by rfl, ?y37⟩) hHeld ?r37
            case y37 => (intro W hSW; obtain ⟨q0, q1, q2, q3, q4, -⟩ := hSW; go_simp; try with_reducible rfl)
            simp only [Act.put, List.setIfInBounds_toArray, List.set_cons_zero, List.set_cons_succ]
            refine wpAnyH_take (i := 15) (oi := Oper.mk (some 42) _ _ _ _ _) (v := ?v38) rfl (by kernel_rfl) (by kernel_rfl) (by kernel_rfl) (fun _ _ _ h => h) (Or.inl ⟨by rfl, ?y38⟩) hHeld ?r38
            case y38 => (intro W hSW; obtain ⟨q0, q1, q2, q3, q4, -⟩ := hSW; go_simp; try with_reducible rfl)
            simp only [Act.put, List.setIfInBounds_toArray, List.set_cons_zero, List.set_cons_succ]
            refine wpAnyH_take (i := 16) (oi := Oper.mk (some 43) _ _ _ _ _) (v := ?v39) rfl (by kernel_rfl) (by kernel_rfl) (by kernel_rfl) (fun _ _ _ h => h) (Or.inl ⟨by rfl, ?y39⟩) hHeld ?r39
            case y39 => (intro W hSW; obtain ⟨q0, q1, q2, q3, q4, -⟩ := hSW; go_simp; try with_reducible rfl)
            simp only [Act.put, List.setIfInBounds_toArray, List.set_cons_zero, List.set_cons_succ]
            rcases Nat.eq_zero_or_pos k with hk0 | hk0
            · subst hk0
              have hp0 := HZ.out rfl
              refine wpAnyH_take (i := 17) (oi := Oper.mk (some 44) _ _ _ _ _) (v := ?v40) rfl (by kernel_rfl) (by kernel_rfl) (by kernel_rfl) (fun _ _ _ h => h) (Or.inl ⟨by rfl, ?y40⟩) hHeld ?r40
              case y40 => (intro W hSW; obtain ⟨q0, q1, q2, q3, q4, -⟩ := hSW; go_simp; try with_reducible rfl)
              simp only [Act.put, List.setIfInBounds_toArray, List.set_cons_zero, List.set_cons_succ]
              refine wpAnyH_take (i := 18) (oi := Oper.mk (some 45) _ _ _ _ _) (v := ?v41) rfl (by kernel_rfl) (by kernel_rfl) (by kernel_rfl) (fun _ _ _ h => h) (Or.inl ⟨by rfl, ?y41⟩) hHeld ?r41
              case y41 => (intro W hSW; obtain ⟨q0, q1, q2, q3, q4, -⟩ := hSW; go_simp; try with_reducible rfl)
              simp only [Act.put, List.setIfInBounds_toArray, List.set_cons_zero, List.set_cons_succ]
              refine wpAnyH_take (i := 19) (oi := Oper.mk (some 46) _ _ _ _ _) (v := ?v42) rfl (by kernel_rfl) (by kernel_rfl) (by kernel_rfl) (fun _ _ _ h => h) (Or.inl ⟨by rfl, ?y42⟩) hHeld ?r42
              case y42 => (intro W hSW; obtain ⟨q0, q1, q2, q3, q4, -⟩ := hSW; go_simp; try with_reducible rfl)
              simp only [Act.put, List.setIfInBounds_toArray, List.set_cons_zero, List.set_cons_succ]
              refine wpAnyH_take (i := 20) (oi := Oper.mk (some 47) _ _ _ _ _) (v := undef) rfl (by kernel_rfl) (by kernel_rfl) (by kernel_rfl) (fun _ _ _ h => h) (Or.inr ⟨by rfl, rfl⟩) hHeld ?_
              simp only [Act.put, List.setIfInBounds_toArray, List.set_cons_zero, List.set_cons_succ]
              refine wpAnyH_take (i := 21) (oi := Oper.mk (some 48) _ _ _ _ _) (v := undef) rfl (by kernel_rfl) (by kernel_rfl) (by kernel_rfl) (fun _ _ _ h => h) (Or.inr ⟨by rfl, rfl⟩) hHeld ?_
              simp only [Act.put, List.setIfInBounds_toArray, List.set_cons_zero, List.set_cons_succ]
              refine wpAnyH_take (i := 22) (oi := Oper.mk (some 49) _ _ _ _ _) (v := undef) rfl (by kernel_rfl) (by kernel_rfl) (by kernel_rfl) (fun _ _ _ h => h) (Or.inr ⟨by rfl, rfl⟩) hHeld ?_
              simp only [Act.put, List.setIfInBounds_toArray, List.set_cons_zero, List.set_cons_succ]
              refine wpAnyH_take (i := 23) (oi := Oper.mk (some 50) _ _ _ _ _) (v := undef) rfl (by kernel_rfl) (by kernel_rfl) (by kernel_rfl) (fun _ _ _ h => h) (Or.inr ⟨by rfl, rfl⟩) hHeld ?_
              simp only [Act.put, List.setIfInBounds_toArray, List.set_cons_zero, List.set_cons_succ]
              refine wpAnyH_take (i := 24) (oi := Oper.mk (some 51) _ _ _ _ _) (v := undef) rfl (by kernel_rfl) (by kernel_rfl) (by kernel_rfl) (fun _ _ _ h => h) (Or.inr ⟨by rfl, rfl⟩) hHeld ?_
              simp only [Act.put, List.setIfInBounds_toArray, List.set_cons_zero, List.set_cons_succ]
              refine wpAnyH_take (i := 25) (oi := Oper.mk (some 52) _ _ _ _ _) (v := undef) rfl (by kernel_rfl) (by kernel_rfl) (by kernel_rfl) (fun _ _ _ h => h) (Or.inr ⟨by rfl, rfl⟩) hHeld ?_
              simp only [Act.put, List.setIfInBounds_toArray, List.set_cons_zero, List.set_cons_succ]
              refine wpAnyH_take (i := 26) (oi := Oper.mk (some 53) _ _ _ _ _) (v := undef) rfl (by kernel_rfl) (by kernel_rfl) (by kernel_rfl) (fun _ _ _ h => h) (Or.inr ⟨by rfl, rfl⟩) hHeld ?_
              simp only [Act.put, List.setIfInBounds_toArray, List.set_cons_zero, List.set_cons_succ]
              refine wpAnyH_take (i := 27) (oi := Oper.mk (some 54) _ _ _ _ _) (v := undef) rfl (by kernel_rfl) (by kernel_rfl) (by kernel_rfl) (fun _ _ _ h => h) (Or.inr ⟨by rfl, rfl⟩) hHeld ?_
              simp only [Act.put, List.setIfInBounds_toArray, List.set_cons_zero, List.set_cons_succ]
              refine wpAnyH_take (i := 28) (oi := Oper.mk (some 55) _ _ _ _ _) (v := undef) rfl (by kernel_rfl) (by kernel_rfl) (by kernel_rfl) (fun _ _ _ h => h) (Or.inr ⟨by rfl, rfl⟩) hHeld ?_
              simp only [Act.put, List.setIfInBounds_toArray, List.set_cons_zero, List.set_cons_succ]
              refine wpAnyH_take (i := 29) (oi := Oper.mk (some 56) _ _ _ _ _) (v := undef) rfl (by kernel_rfl) (by kernel_rfl) (by kernel_rfl) (fun _ _ _ h => h) (Or.inr ⟨by rfl, rfl⟩) hHeld ?_
              simp only [Act.put, List.setIfInBounds_toArray, List.set_cons_zero, List.set_cons_succ]
              refine wpAnyH_take (i := 30) (oi := Oper.mk (some 57) _ _ _ _ _) (v := ?v43) rfl (by kernel_rfl) (by kernel_rfl) (by kernel_rfl) (fun _ _ _ h => h) (Or.inl ⟨by rfl, ?y43⟩) hHeld ?r43
              case y43 => (intro W hSW; obtain ⟨q0, q1, q2, q3, q4, -⟩ := hSW; go_simp; try with_reducible rfl)
              simp only [Act.put, List.setIfInBounds_toArray, List.set_cons_zero, List.set_cons_succ]
              refine wpAnyH_take (i := 31) (oi := Oper.mk (some 58) _ _ _ _ _) (v := ?v44) rfl (by kernel_rfl) (by kernel_rfl) (by kernel_rfl) (fun _ _ _ h => h) (Or.inl ⟨by rfl, ?y44⟩) hHeld ?r44
              case y44 => (intro W hSW; obtain ⟨q0, q1, q2, q3, q4, -⟩ := hSW; go_simp; try with_reducible rfl)
              simp only [Act.put, List.setIfInBounds_toArray, List.set_cons_zero, List.set_cons_succ]
              refine wpAnyH_take (i := 32) (oi := Oper.mk (some 59) _ _ _ _ _) (v := ?v45) rfl (by kernel_rfl) (by kernel_rfl) (by kernel_rfl) (fun _ _ _ h => h) (Or.inl ⟨by rfl, ?y45⟩) hHeld ?r45
              case y45 => (intro W hSW; obtain ⟨q0, q1, q2, q3, q4, -⟩ := hSW; go_simp; try with_reducible rfl)
              simp only [Act.put, List.setIfInBounds_toArray, List.set_cons_zero, List.set_cons_succ]
              refine wpAnyH_take (i := 33) (oi := Oper.mk (some 60) _ _ _ _ _) (v := ?v46) rfl (by kernel_rfl) (by kernel_rfl) (by kernel_rfl) (fun _ _ _ h => h) (Or.inl ⟨by rfl, ?y46⟩) hHeld ?r46
              case y46 => (intro W hSW; obtain ⟨q0, q1, q2, q3, q4, -⟩ := hSW; go_simp; try with_reducible rfl)
              simp only [Act.put, List.setIfInBounds_toArray, List.set_cons_zero, List.set_cons_succ]
              refine wpAnyH_take (i := 34) (oi := Oper.mk (some 61) _ _ _ _ _) (v := ?v47) rfl (by kernel_rfl) (by kernel_rfl) (by kernel_rfl) (fun _ _ _ h => h) (Or.inl ⟨by rfl, ?y47⟩) hHeld ?r47
              case y47 => (intro W hSW; obtain ⟨q0, q1, q2, q3, q4, -⟩ := hSW; go_simp; try with_reducible rfl)
              simp only [Act.put, List.setIfInBounds_toArray, List.set_cons_zero, List.set_cons_succ]
              refine wpAnyH_take (i := 35) (oi := Oper.mk (some 62) _ _ _ _ _) (v := ?v48) rfl (by kernel_rfl) (by kernel_rfl) (by kernel_rfl) (fun _ _ _ h => h) (Or.inl ⟨by rfl, ?y48⟩) hHeld ?r48
              case y48 => (intro W hSW; obtain ⟨q0, q1, q2, q3, q4, -⟩ := hSW; go_simp; try with_reducible rfl)
              simp only [Act.put, List.setIfInBounds_toArray, List.set_cons_zero, List.set_cons_succ]
              refine wpAnyH_take (i := 37) (oi := Oper.mk (some 64) _ _ _ _ _) (v := ?v49) rfl (by kernel_rfl) (by kernel_rfl) (by kernel_rfl) (fun _ _ _ h => h) (Or.inl ⟨by rfl, ?y49⟩) hHeld ?r49
              case y49 => (intro W hSW; obtain ⟨q0, q1, q2, q3, q4, -⟩ := hSW; go_simp; try with_reducible rfl)
              simp only [Act.put, List.setIfInBounds_toArray, List.set_cons_zero, List.set_cons_succ]
              refine wpAnyH_take (i := 38) (oi := Oper.mk (some 65) _ _ _ _ _) (v := ?v50) rfl (by kernel_rfl) (by kernel_rfl) (by kernel_rfl) (fun _ _ _ h => h) (Or.inl ⟨by rfl, ?y50⟩) hHeld ?r50
              case y50 => (intro W hSW; obtain ⟨q0, q1, q2, q3, q4, -⟩ := hSW; go_simp; try with_reducible rfl)
              simp only [Act.put, List.setIfInBounds_toArray, List.set_cons_zero, List.set_cons_succ]
              refine wpAnyH_ready (rs := [36]) (by kernel_rfl) (by simp) (AllReadyH.cons (o := Oper.mk (some 63) _ _ _ _ _) rfl (fun K hK => ?_) AllReadyH.nil)
              go_simp
              refine (specIdOf_any _ va n cap vc nx kd J L _ hHeld.2.2.2.2.2.1 hHeld.2.2.2.2.2.2.1 HJ.out hn HL.out HLk.out).mono ?_
              rw [HR.out]
              rintro e w4 ⟨rfl, hb4⟩
              refine hK.out _ _ (keep5P hSF hb4 hHeld) (fun hHeld => ?_)
              clear hK K
              by_cases hRi : R = id
              · have hRd : (R != id) = false := by simp [hRi]
                refine wpAnyH_take (i := 39) (oi := Oper.mk (some 66) _ _ _ _ _) (v := ?v51) rfl (by kernel_rfl) (by kernel_rfl) (by kernel_rfl) (fun _ _ _ h => h) (Or.inl ⟨by rfl, ?y51⟩) hHeld ?r51
                case y51 => (intro W hSW; obtain ⟨q0, q1, q2, q3, q4, -⟩ := hSW; go_simp; try with_reducible rfl)
                simp only [Act.put, List.setIfInBounds_toArray, List.set_cons_zero, List.set_cons_succ]
                refine wpAnyH_take (i := 40) (oi := Oper.mk (some 67) _ _ _ _ _) (v := ?v52) rfl (by kernel_rfl) (by kernel_rfl) (by kernel_rfl) (fun _ _ _ h => h) (Or.inl ⟨by rfl, ?y52⟩) hHeld ?r52
                case y52 => (intro W hSW; obtain ⟨q0, q1, q2, q3, q4, -⟩ := hSW; go_simp; try with_reducible rfl)
                simp only [Act.put, List.setIfInBounds_toArray, List.set_cons_zero, List.set_cons_succ]
                refine wpAnyH_done (by kernel_rfl) ?_ _
                have hbN := hHeld.2.2.2.2.2.2.2.1
                have HO2 := hide (HOkk.out (by omega) (by omega) HFf.out)
                have HI2 : Hid (idP (J.map It.pl) (iAt J 0).kd (iAt J 0).L = (iAt J 0).id) := by unfold Hid; rw [← HX.out]; exact HR.out.trans hRi
                clear hHeld
                go_wp2
                go_roundw
                case rel => exact ⟨0 + 1, by omega, by go_num, fun j hj => by
                  by_cases hjk : j = 0
                  · rw [hjk]; exact ⟨HO2.out, HI2.out⟩
                  · exact HOk.out j (by omega), hbN⟩
                case measure => simp [intOf]; omega
              · have hRd : (R != id) = true := by simp [hRi]
                have HF := hide (HWi.out hRi)
                refine wpAnyH_take (i := 39) (oi := Oper.mk (some 66) _ _ _ _ _) (v := ?v53) rfl (by kernel_rfl) (by kernel_rfl) (by kernel_rfl) (fun _ _ _ h => h) (Or.inl ⟨by rfl, ?y53⟩) hHeld ?r53
                case y53 => (intro W hSW; obtain ⟨q0, q1, q2, q3, q4, -⟩ := hSW; go_simp; try with_reducible rfl)
                simp only [Act.put, List.setIfInBounds_toArray, List.set_cons_zero, List.set_cons_succ]
                refine wpAnyH_take (i := 40) (oi := Oper.mk (some 67) _ _ _ _ _) (v := ?v54) rfl (by kernel_rfl) (by kernel_rfl) (by kernel_rfl) (fun _ _ _ h => h) (Or.inl ⟨by rfl, ?y54⟩) hHeld ?r54
                case y54 => (intro W hSW; obtain ⟨q0, q1, q2, q3, q4, -⟩ := hSW; go_simp; try with_reducible rfl)
                simp only [Act.put, List.setIfInBounds_toArray, List.set_cons_zero, List.set_cons_succ]
                refine wpAnyH_done (by kernel_rfl) ?_ _
                have B3 : Below w.heap.size w w4 := b0.trans (hHeld.2.2.2.2.2.2.2.1.mono b0.size)
                go_wp2
                go_ret
                exact ⟨ret_bool HF.out.symm, B3⟩
            · obtain ⟨m, rfl⟩ : ∃ m, k = m + 1 := ⟨k - 1, by omega⟩
              have l0 : (0 : Int) ≤ (m : Int) := by omega
              have l1 : (m : Int) < (n : Int) := by omega
              have hwm : IntKind.i64.wrap (m : Int) = (m : Int) := by simp [IntKind.wrap, IntKind.bits, IntKind.signed]; omega
              refine wpAnyH_take (i := 17) (oi := Oper.mk (some 44) _ _ _ _ _) (v := ?v55) rfl (by kernel_rfl) (by kernel_rfl) (by kernel_rfl) (fun _ _ _ h => h) (Or.inl ⟨by rfl, ?y55⟩) hHeld ?r55
              case y55 => (intro W hSW; obtain ⟨q0, q1, q2, q3, q4, -⟩ := hSW; go_simp; try with_reducible rfl)
              simp only [Act.put, List.setIfInBounds_toArray, List.set_cons_zero, List.set_cons_succ]
              refine wpAnyH_take (i := 18) (oi := Oper.mk (some 45) _ _ _ _ _) (v := ?v56) rfl (by kernel_rfl) (by kernel_rfl) (by kernel_rfl) (fun _ _ _ h => h) (Or.inl ⟨by rfl, ?y56⟩) hHeld ?r56
              case y56 => (intro W hSW; obtain ⟨q0, q1, q2, q3, q4, -⟩ := hSW; go_simp; try with_reducible rfl)
              simp only [Act.put, List.setIfInBounds_toArray, List.set_cons_zero, List.set_cons_succ]
              refine wpAnyH_take (i := 19) (oi := Oper.mk (some 46) _ _ _ _ _) (v := ?v57) rfl (by kernel_rfl) (by kernel_rfl) (by kernel_rfl) (fun _ _ _ h => h) (Or.inl ⟨by rfl, ?y57⟩) hHeld ?r57
              case y57 => (intro W hSW; obtain ⟨q0, q1, q2, q3, q4, -⟩ := hSW; go_simp; try with_reducible rfl)
              simp only [Act.put, List.setIfInBounds_toArray, List.set_cons_zero, List.set_cons_succ]
              refine wpAnyH_take (i := 20) (oi := Oper.mk (some 47) _ _ _ _ _) (v := ?v58) rfl (by kernel_rfl) (by kernel_rfl) (by kernel_rfl) (fun _ _ _ h => h) (Or.inl ⟨by rfl, ?y58⟩) hHeld ?r58
              case y58 => (intro W hSW; obtain ⟨q0, q1, q2, q3, q4, -⟩ := hSW; go_simp; try with_reducible rfl)
              simp only [Act.put, List.setIfInBounds_toArray, List.set_cons_zero, List.set_cons_succ]
              refine wpAnyH_take (i := 21) (oi := Oper.mk (some 48) _ _ _ _ _) (v := ?v59) rfl (by kernel_rfl) (by kernel_rfl) (by kernel_rfl) (fun _ _ _ h => h) (Or.inl ⟨by rfl, ?y59⟩) hHeld ?r59
              case y59 => (intro W hSW; obtain ⟨q0, q1, q2, q3, q4, -⟩ := hSW; go_simp; try with_reducible rfl)
              simp only [Act.put, List.setIfInBounds_toArray, List.set_cons_zero, List.set_cons_succ]
              refine wpAnyH_take (i := 22) (oi := Oper.mk (some 49) _ _ _ _ _) (v := ?v60) rfl (by kernel_rfl) (by kernel_rfl) (by kernel_rfl) (fun _ _ _ h => h) (Or.inl ⟨by rfl, ?y60⟩) hHeld ?r60
              case y60 => (intro W hSW; obtain ⟨q0, q1, q2, q3, q4, -⟩ := hSW; go_simp; try with_reducible rfl)
              simp only [Act.put, List.setIfInBounds_toArray, List.set_cons_zero, List.set_cons_succ]
              refine wpAnyH_take (i := 23) (oi := Oper.mk (some 50) _ _ _ _ _) (v := ?v61) rfl (by kernel_rfl) (by kernel_rfl) (by kernel_rfl) (fun _ _ _ h => h) (Or.inl ⟨by rfl, ?y61⟩) hHeld ?r61
              case y61 => (intro W hSW; obtain ⟨q0, q1, q2, q3, q4, -⟩ := hSW; go_simp; try with_reducible rfl)
              simp only [Act.put, List.setIfInBounds_toArray, List.set_cons_zero, List.set_cons_succ]
              refine wpAnyH_take (i := 24) (oi := Oper.mk (some 51) _ _ _ _ _) (v := ?v62) rfl (by kernel_rfl) (by kernel_rfl) (by kernel_rfl) (fun _ _ _ h => h) (Or.inl ⟨by rfl, ?y62⟩) hHeld ?r62
              case y62 => (intro W hSW; obtain ⟨q0, q1, q2, q3, q4, -⟩ := hSW; go_simp; try with_reducible rfl)
              simp only [Act.put, List.setIfInBounds_toArray, List.set_cons_zero, List.set_cons_succ]
              refine wpAnyH_take (i := 25) (oi := Oper.mk (some 52) _ _ _ _ _) (v := ?v63) rfl (by kernel_rfl) (by kernel_rfl) (by kernel_rfl) (fun _ _ _ h => h) (Or.inl ⟨by rfl, ?y63⟩) hHeld ?r63
              case y63 => (intro W hSW; obtain ⟨q0, q1, q2, q3, q4, -⟩ := hSW; go_simp; try with_reducible rfl)
              simp only [Act.put, List.setIfInBounds_toArray, List.set_cons_zero, List.set_cons_succ]
              refine wpAnyH_take (i := 26) (oi := Oper.mk (some 53) _ _ _ _ _) (v := ?v64) rfl (by kernel_rfl) (by kernel_rfl) (by kernel_rfl) (fun _ _ _ h => h) (Or.inl ⟨by rfl, ?y64⟩) hHeld ?r64
              case y64 => (intro W hSW; obtain ⟨q0, q1, q2, q3, q4, -, -, -, q5⟩ := hSW; have q6 := q5 (by omega); simp only [Nat.add_sub_cancel] at q6; go_simp; try with_reducible rfl)
              simp only [Act.put, List.setIfInBounds_toArray, List.set_cons_zero, List.set_cons_succ]
              refine wpAnyH_take (i := 27) (oi := Oper.mk (some 54) _ _ _ _ _) (v := ?v65) rfl (by kernel_rfl) (by kernel_rfl) (by kernel_rfl) (fun _ _ _ h => h) (Or.inl ⟨by rfl, ?y65⟩) hHeld ?r65
              case y65 => (intro W hSW; obtain ⟨q0, q1, q2, q3, q4, -⟩ := hSW; go_simp; try with_reducible rfl)
              simp only [Act.put, List.setIfInBounds_toArray, List.set_cons_zero, List.set_cons_succ]
              refine wpAnyH_take (i := 28) (oi := Oper.mk (some 55) _ _ _ _ _) (v := ?v66) rfl (by kernel_rfl) (by kernel_rfl) (by kernel_rfl) (fun _ _ _ h => h) (Or.inl ⟨by rfl, ?y66⟩) hHeld ?r66
              case y66 => (intro W hSW; obtain ⟨q0, q1, q2, q3, q4, -⟩ := hSW; go_simp; try with_reducible rfl)
              simp only [Act.put, List.setIfInBounds_toArray, List.set_cons_zero, List.set_cons_succ]
              by_cases h3 : id ≤ p
              · have HF := hide (HW.out (HNo.out (fun h => by omega)))
                refine wpAnyH_take (i := 29) (oi := Oper.mk (some 56) _ _ _ _ _) (v := ?v67) rfl (by kernel_rfl) (by kernel_rfl) (by kernel_rfl) (fun _ _ _ h => h) (Or.inl ⟨by rfl, ?y67⟩) hHeld ?r67
                case y67 => (intro W hSW; obtain ⟨q0, q1, q2, q3, q4, -⟩ := hSW; go_simp; try with_reducible rfl)
                simp only [Act.put, List.setIfInBounds_toArray, List.set_cons_zero, List.set_cons_succ]
                refine wpAnyH_take (i := 30) (oi := Oper.mk (some 57) _ _ _ _ _) (v := ?v68) rfl (by kernel_rfl) (by kernel_rfl) (by kernel_rfl) (fun _ _ _ h => h) (Or.inl ⟨by rfl, ?y68⟩) hHeld ?r68
                case y68 => (intro W hSW; obtain ⟨q0, q1, q2, q3, q4, -⟩ := hSW; go_simp; try with_reducible rfl)
                simp only [Act.put, List.setIfInBounds_toArray, List.set_cons_zero, List.set_cons_succ]
                refine wpAnyH_take (i := 31) (oi := Oper.mk (some 58) _ _ _ _ _) (v := ?v69) rfl (by kernel_rfl) (by kernel_rfl) (by kernel_rfl) (fun _ _ _ h => h) (Or.inl ⟨by rfl, ?y69⟩) hHeld ?r69
                case y69 => (intro W hSW; obtain ⟨q0, q1, q2, q3, q4, -⟩ := hSW; go_simp; try with_reducible rfl)
                simp only [Act.put, List.setIfInBounds_toArray, List.set_cons_zero, List.set_cons_succ]
                refine wpAnyH_take (i := 32) (oi := Oper.mk (some 59) _ _ _ _ _) (v := ?v70) rfl (by kernel_rfl) (by kernel_rfl) (by kernel_rfl) (fun _ _ _ h => h) (Or.inl ⟨by rfl, ?y70⟩) hHeld ?r70
                case y70 => (intro W hSW; obtain ⟨q0, q1, q2, q3, q4, -⟩ := hSW; go_simp; try with_reducible rfl)
                simp only [Act.put, List.setIfInBounds_toArray, List.set_cons_zero, List.set_cons_succ]
                refine wpAnyH_take (i := 33) (oi := Oper.mk (some 60) _ _ _ _ _) (v := undef) rfl (by kernel_rfl) (by kernel_rfl) (by kernel_rfl) (fun _ _ _ h => h) (Or.inr ⟨by rfl, rfl⟩) hHeld ?_
                simp only [Act.put, List.setIfInBounds_toArray, List.set_cons_zero, List.set_cons_succ]
                refine wpAnyH_take (i := 34) (oi := Oper.mk (some 61) _ _ _ _ _) (v := undef) rfl (by kernel_rfl) (by kernel_rfl) (by kernel_rfl) (fun _ _ _ h => h) (Or.inr ⟨by rfl, rfl⟩) hHeld ?_
                simp only [Act.put, List.setIfInBounds_toArray, List.set_cons_zero, List.set_cons_succ]
                refine wpAnyH_take (i := 35) (oi := Oper.mk (some 62) _ _ _ _ _) (v := undef) rfl (by kernel_rfl) (by kernel_rfl) (by kernel_rfl) (fun _ _ _ h => h) (Or.inr ⟨by rfl, rfl⟩) hHeld ?_
                simp only [Act.put, List.setIfInBounds_toArray, List.set_cons_zero, List.set_cons_succ]
                refine wpAnyH_take (i := 36) (oi := Oper.mk (some 63) _ _ _ _ _) (v := undef) rfl (by kernel_rfl) (by kernel_rfl) (by kernel_rfl) (fun _ _ _ h => h) (Or.inr ⟨by rfl, rfl⟩) hHeld ?_
                simp only [Act.put, List.setIfInBounds_toArray, List.set_cons_zero, List.set_cons_succ]
                refine wpAnyH_take (i := 37) (oi := Oper.mk (some 64) _ _ _ _ _) (v := undef) rfl (by kernel_rfl) (by kernel_rfl) (by kernel_rfl) (fun _ _ _ h => h) (Or.inr ⟨by rfl, rfl⟩) hHeld ?_
                simp only [Act.put, List.setIfInBounds_toArray, List.set_cons_zero, List.set_cons_succ]
                refine wpAnyH_take (i := 38) (oi := Oper.mk (some 65) _ _ _ _ _) (v := undef) rfl (by kernel_rfl) (by kernel_rfl) (by kernel_rfl) (fun _ _ _ h => h) (Or.inr ⟨by rfl, rfl⟩) hHeld ?_
                simp only [Act.put, List.setIfInBounds_toArray, List.set_cons_zero, List.set_cons_succ]
                refine wpAnyH_take (i := 39) (oi := Oper.mk (some 66) _ _ _ _ _) (v := undef) rfl (by kernel_rfl) (by kernel_rfl) (by kernel_rfl) (fun _ _ _ h => h) (Or.inr ⟨by rfl, rfl⟩) hHeld ?_
                simp only [Act.put, List.setIfInBounds_toArray, List.set_cons_zero, List.set_cons_succ]
                refine wpAnyH_take (i := 40) (oi := Oper.mk (some 67) _ _ _ _ _) (v := ?v71) rfl (by kernel_rfl) (by kernel_rfl) (by kernel_rfl) (fun _ _ _ h => h) (Or.inl ⟨by rfl, ?y71⟩) hHeld ?r71
                case y71 => (intro W hSW; obtain ⟨q0, q1, q2, q3, q4, -⟩ := hSW; go_simp; try with_reducible rfl)
                simp only [Act.put, List.setIfInBounds_toArray, List.set_cons_zero, List.set_cons_succ]
                refine wpAnyH_done (by kernel_rfl) ?_ _
                have B3 : Below w.heap.size w w3 := hB1.trans ((below_dr hb3).mono hB1.size)
                go_wp2
                go_ret
                exact ⟨ret_bool HF.out.symm, B3⟩
              · have h3d : decide (id ≤ p) = false := by simpa using h3
                refine wpAnyH_take (i := 29) (oi := Oper.mk (some 56) _ _ _ _ _) (v := ?v72) rfl (by kernel_rfl) (by kernel_rfl) (by kernel_rfl) (fun _ _ _ h => h) (Or.inl ⟨by rfl, ?y72⟩) hHeld ?r72
                case y72 => (intro W hSW; obtain ⟨q0, q1, q2, q3, q4, -⟩ := hSW; go_simp; try with_reducible rfl)
                simp only [Act.put, List.setIfInBounds_toArray, List.set_cons_zero, List.set_cons_succ]
                refine wpAnyH_take (i := 30) (oi := Oper.mk (some 57) _ _ _ _ _) (v := ?v73) rfl (by kernel_rfl) (by kernel_rfl) (by kernel_rfl) (fun _ _ _ h => h) (Or.inl ⟨by rfl, ?y73⟩) hHeld ?r73
                case y73 => (intro W hSW; obtain ⟨q0, q1, q2, q3, q4, -⟩ := hSW; go_simp; try with_reducible rfl)
                simp only [Act.put, List.setIfInBounds_toArray, List.set_cons_zero, List.set_cons_succ]
                refine wpAnyH_take (i := 31) (oi := Oper.mk (some 58) _ _ _ _ _) (v := ?v74) rfl (by kernel_rfl) (by kernel_rfl) (by kernel_rfl) (fun _ _ _ h => h) (Or.inl ⟨by rfl, ?y74⟩) hHeld ?r74
                case y74 => (intro W hSW; obtain ⟨q0, q1, q2, q3, q4, -⟩ := hSW; go_simp; try with_reducible rfl)
                simp only [Act.put, List.setIfInBounds_toArray, List.set_cons_zero, List.set_cons_succ]
                refine wpAnyH_take (i := 32) (oi := Oper.mk (some 59) _ _ _ _ _) (v := ?v75) rfl (by kernel_rfl) (by kernel_rfl) (by kernel_rfl) (fun _ _ _ h => h) (Or.inl ⟨by rfl, ?y75⟩) hHeld ?r75
                case y75 => (intro W hSW; obtain ⟨q0, q1, q2, q3, q4, -⟩ := hSW; go_simp; try with_reducible rfl)
                simp only [Act.put, List.setIfInBounds_toArray, List.set_cons_zero, List.set_cons_succ]
                refine wpAnyH_take (i := 33) (oi := Oper.mk (some 60) _ _ _ _ _) (v := ?v76) rfl (by kernel_rfl) (by kernel_rfl) (by kernel_rfl) (fun _ _ _ h => h) (Or.inl ⟨by rfl, ?y76⟩) hHeld ?r76
                case y76 => (intro W hSW; obtain ⟨q0, q1, q2, q3, q4, -⟩ := hSW; go_simp; try with_reducible rfl)
                simp only [Act.put, List.setIfInBounds_toArray, List.set_cons_zero, List.set_cons_succ]
                refine wpAnyH_take (i := 34) (oi := Oper.mk (some 61) _ _ _ _ _) (v := ?v77) rfl (by kernel_rfl) (by kernel_rfl) (by kernel_rfl) (fun _ _ _ h => h) (Or.inl ⟨by rfl, ?y77⟩) hHeld ?r77
                case y77 => (intro W hSW; obtain ⟨q0, q1, q2, q3, q4, -⟩ := hSW; go_simp; try with_reducible rfl)
                simp only [Act.put, List.setIfInBounds_toArray, List.set_cons_zero, List.set_cons_succ]
                refine wpAnyH_take (i := 35) (oi := Oper.mk (some 62) _ _ _ _ _) (v := ?v78) rfl (by kernel_rfl) (by kernel_rfl) (by kernel_rfl) (fun _ _ _ h => h) (Or.inl ⟨by rfl, ?y78⟩) hHeld ?r78
                case y78 => (intro W hSW; obtain ⟨q0, q1, q2, q3, q4, -⟩ := hSW; go_simp; try with_reducible rfl)
                simp only [Act.put, List.setIfInBounds_toArray, List.set_cons_zero, List.set_cons_succ]
                refine wpAnyH_take (i := 37) (oi := Oper.mk (some 64) _ _ _ _ _) (v := ?v79) rfl (by kernel_rfl) (by kernel_rfl) (by kernel_rfl) (fun _ _ _ h => h) (Or.inl ⟨by rfl, ?y79⟩) hHeld ?r79
                case y79 => (intro W hSW; obtain ⟨q0, q1, q2, q3, q4, -⟩ := hSW; go_simp; try with_reducible rfl)
                simp only [Act.put, List.setIfInBounds_toArray, List.set_cons_zero, List.set_cons_succ]
                refine wpAnyH_take (i := 38) (oi := Oper.mk (some 65) _ _ _ _ _) (v := ?v80) rfl (by kernel_rfl) (by kernel_rfl) (by kernel_rfl) (fun _ _ _ h => h) (Or.inl ⟨by rfl, ?y80⟩) hHeld ?r80
                case y80 => (intro W hSW; obtain ⟨q0, q1, q2, q3, q4, -⟩ := hSW; go_simp; try with_reducible rfl)
                simp only [Act.put, List.setIfInBounds_toArray, List.set_cons_zero, List.set_cons_succ]
                refine wpAnyH_ready (rs := [36]) (by kernel_rfl) (by simp) (AllReadyH.cons (o := Oper.mk (some 63) _ _ _ _ _) rfl (fun K hK => ?_) AllReadyH.nil)
                go_simp
                refine (specIdOf_any _ va n cap vc nx kd J L _ hHeld.2.2.2.2.2.1 hHeld.2.2.2.2.2.2.1 HJ.out hn HL.out HLk.out).mono ?_
                rw [HR.out]
                rintro e w4 ⟨rfl, hb4⟩
                refine hK.out _ _ (keep5P hSF hb4 hHeld) (fun hHeld => ?_)
                clear hK K
                by_cases hRi : R = id
                · have hRd : (R != id) = false := by simp [hRi]
                  refine wpAnyH_take (i := 39) (oi := Oper.mk (some 66) _ _ _ _ _) (v := ?v81) rfl (by kernel_rfl) (by kernel_rfl) (by kernel_rfl) (fun _ _ _ h => h) (Or.inl ⟨by rfl, ?y81⟩) hHeld ?r81
                  case y81 => (intro W hSW; obtain ⟨q0, q1, q2, q3, q4, -⟩ := hSW; go_simp; try with_reducible rfl)
                  simp only [Act.put, List.setIfInBounds_toArray, List.set_cons_zero, List.set_cons_succ]
                  refine wpAnyH_take (i := 40) (oi := Oper.mk (some 67) _ _ _ _ _) (v := ?v82) rfl (by kernel_rfl) (by kernel_rfl) (by kernel_rfl) (fun _ _ _ h => h) (Or.inl ⟨by rfl, ?y82⟩) hHeld ?r82
                  case y82 => (intro W hSW; obtain ⟨q0, q1, q2, q3, q4, -⟩ := hSW; go_simp; try with_reducible rfl)
                  simp only [Act.put, List.setIfInBounds_toArray, List.set_cons_zero, List.set_cons_succ]
                  refine wpAnyH_done (by kernel_rfl) ?_ _
                  have hbN := hHeld.2.2.2.2.2.2.2.1
                  have HO2 := hide (HOkk.out (by omega) (by omega) HFf.out)
                  have HI2 : Hid (idP (J.map It.pl) (iAt J (m + 1)).kd (iAt J (m + 1)).L = (iAt J (m + 1)).id) := by unfold Hid; rw [← HX.out]; exact HR.out.trans hRi
                  clear hHeld
                  go_wp2
                  go_roundw
                  case rel => exact ⟨(m + 1) + 1, by omega, by go_num, fun j hj => by
                    by_cases hjk : j = (m + 1)
                    · rw [hjk]; exact ⟨HO2.out, HI2.out⟩
                    · exact HOk.out j (by omega), hbN⟩
                  case measure => simp [intOf]; omega
                · have hRd : (R != id) = true := by simp [hRi]
                  have HF := hide (HWi.out hRi)
                  refine wpAnyH_take (i := 39) (oi := Oper.mk (some 66) _ _ _ _ _) (v := ?v83) rfl (by kernel_rfl) (by kernel_rfl) (by kernel_rfl) (fun _ _ _ h => h) (Or.inl ⟨by rfl, ?y83⟩) hHeld ?r83
                  case y83 => (intro W hSW; obtain ⟨q0, q1, q2, q3, q4, -⟩ := hSW; go_simp; try with_reducible rfl)
                  simp only [Act.put, List.setIfInBounds_toArray, List.set_cons_zero, List.set_cons_succ]
                  refine wpAnyH_take (i := 40) (oi := Oper.mk (some 67) _ _ _ _ _) (v := ?v84) rfl (by kernel_rfl) (by kernel_rfl) (by kernel_rfl) (fun _ _ _ h => h) (Or.inl ⟨by rfl, ?y84⟩) hHeld ?r84
                  case y84 => (intro W hSW; obtain ⟨q0, q1, q2, q3, q4, -⟩ := hSW; go_simp; try with_reducible rfl)
                  simp only [Act.put, List.setIfInBounds_toArray, List.set_cons_zero, List.set_cons_succ]
                  refine wpAnyH_done (by kernel_rfl) ?_ _
                  have B3 : Below w.heap.size w w4 := b0.trans (hHeld.2.2.2.2.2.2.2.1.mono b0.size)
                  go_wp2
                  go_ret
                  exact ⟨ret_bool HF.out.symm, B3⟩
    · have HR : Hid (storeB nx J = true) := right_of H0.out (fun j hj => (HOk.out j (by rw [HJ.out] at hj; omega)).1) (fun j hj => (HOk.out j (by rw [HJ.out] at hj; omega)).2)
      go_wp2
      go_ret
      exact ⟨ret_bool HR.out.symm, hB⟩
end Go.Proofs.YtaflokfgbmlmaadDoor
/-
  What the model's Assert answers.
-/
namespace Go.Proofs.YtaflokfgbmlmaadDoor
open Go.RowKit
set_option linter.unusedVariables false

/-- Assert, plainly: the Id, Next, the items -/
noncomputable def asR (nx : Int) (J : List It) (kd : ByteArray) (M : List V3) : Int × Int × List P4 := if storeB nx J = true ∧ factB kd M = true then assP (J.map It.pl) nx kd M else (0, nx, J.map It.pl)
theorem GivesS.hv {w : World} {lo n : Nat} {v : Value} {K : List It} (h : GivesS w lo v n K) : ∃ va vc, v = .slice va n vc ∧ HV w lo n va vc K := by
  rcases h with ⟨rfl, rfl, rfl⟩ | ⟨g, cp, rfl, o⟩
  · exact ⟨none, 0, rfl, .inl ⟨rfl, rfl, rfl, rfl⟩⟩
  · exact ⟨_, cp, rfl, .inr ⟨g, rfl, o⟩⟩
theorem plK_len {J K : List It} (h : K.map It.pl = J.map It.pl) : K.length = J.length := by have := congrArg List.length h; simpa using this
theorem pl_L {J K : List It} {m : Nat} (h : K.map It.pl = J.map It.pl) (hl : ∀ i, i < J.length → (iAt J i).L.length ≤ m) : ∀ i, i < K.length → (iAt K i).L.length ≤ m := fun i hi => by
  have hj : i < J.length := by rw [← plK_len h]; exact hi
  have e : (K.map It.pl)[i]? = (J.map It.pl)[i]? := by rw [h]
  simp only [List.getElem?_map, List.getElem?_eq_getElem hi, List.getElem?_eq_getElem hj, Option.map_some, Option.some.injEq] at e
  have h2 := hl i hj
  rw [iAt_in hj] at h2
  rw [iAt_in hi]
  have e2 : (K[i]).L = (J[i]).L := congrArg P4.L e
  rw [e2]; exact h2

set_option maxRecDepth 100000 in
set_option maxHeartbeats 6400000 in
theorem specAssert_any (a b : Option Addr) (n cap cb : Nat) (nx : Int) (kd : ByteArray) (J : List It) (M : List V3) (w : World) (hr : RdI w a J) (hJ : J.length = n) (hn : n ≤ 1048576) (hs : ∀ i, i < J.length → okI (iAt J i)) (hl : ∀ i, i < J.length → (iAt J i).L.length ≤ 1048580)
    (hq : RdV w b M) (hkd : kd.size ≤ maxLen) (hsM : ∀ v ∈ M, v.S.size ≤ maxLen) (hm : M.length ≤ 1048580) :
    Calls Tryd.prog 13 #[.agg #[.slice a n cap, .int .i64 nx], .agg #[.string kd, .slice b M.length cb]] w fun e w' =>
      ∃ va vc K, e = .returned (.tuple #[.agg #[.slice va K.length vc, .int .i64 (asR nx J kd M).2.1], .int .i64 (asR nx J kd M).1, .bool (decide (0 < (asR nx J kd M).1))]) ∧ HV w' w.heap.size K.length va vc K ∧ K.map It.pl = (asR nx J kd M).2.2 ∧ Below w.heap.size w w' := by
  have HJ := hide hJ
  have HL := hide hl
  have HS := hide hs
  have HSM := hide hsM
  clear hJ hl hs hsM
  have b0 := below_al w (.cells #[.slice a n cap, .int .i64 nx] 29)
  have b1 := b0.alloc b0.size (.cells #[.string kd, .slice b M.length cb] 41)
  have b2 := b1.alloc b1.size (.cells #[.slice none 0 0, .int .i64 0] 29)
  have hA := box_old (box_old (box2_new w (.slice a n cap) (.int .i64 nx) 29) (by simp) (.cells #[.string kd, .slice b M.length cb] 41)) (by simp; omega) (.cells #[.slice none 0 0, .int .i64 0] 29)
  have hF := box_old (box2_new (w.alloc (.cells #[.slice a n cap, .int .i64 nx] 29)) (.string kd) (.slice b M.length cb) 41) (by simp) (.cells #[.slice none 0 0, .int .i64 0] 29)
  have hR := box2_new ((w.alloc (.cells #[.slice a n cap, .int .i64 nx] 29)).alloc (.cells #[.string kd, .slice b M.length cb] 41)) (.slice none 0 0) (.int .i64 0) 29
  simp only [World.size_alloc] at hA hF hR
  go_enter Tryd.func13, Tryd.ntmps13
  go_wp2_with fail
  generalize ((w.alloc (.cells #[.slice a n cap, .int .i64 nx] 29)).alloc (.cells #[.string kd, .slice b M.length cb] 41)).alloc (.cells #[.slice none 0 0, .int .i64 0] 29) = w0 at b2 hA hF hR ⊢
  clear b0 b1
  have hr0 := hr.below b2
  have hq0 := hq.below b2
  refine (l4Copy_any a n cap nx J _ hr0 HJ.out hn HL.out).mono ?_
  rintro e w1 ⟨K, v, rfl, hG, hpl, hb1⟩
  obtain ⟨va, vc, rfl, hV1⟩ := hG.hv
  have HPl := hide hpl
  have HKn : Hid (K.length = n) := by unfold Hid; rw [plK_len HPl.out, HJ.out]
  have ba := below_al w1 (.cells #[.slice va n vc, .int .i64 nx] 29)
  have hP2 := box2_new w1 (.slice va n vc) (.int .i64 nx) 29
  have hb2 := hb1.trans (ba.mono hb1.size)
  have hA2 := box_step hA hb2
  have hF2 := box_step hF hb2
  have hR2 := box_step hR hb2
  have hV2 := hV1.later ba
  have hr2 := hr0.below hb2
  have hq2 := hq0.below hb2
  have hB2 : Below w.heap.size w _ := b2.trans (hb2.mono b2.size)
  have hlo : w.heap.size + 1 + 1 + 1 ≤ w0.heap.size := (Array.getElem?_eq_some_iff.1 hR).1
  have hw1 := hb1.size
  clear hG hpl hV1
  obtain ⟨x0, x1, -, -⟩ := box2_cell hA2
  go_wp2_with fail
  generalize w1.alloc (.cells #[.slice va n vc, .int .i64 nx] 29) = w2 at ba hP2 hb2 hA2 hF2 hR2 hV2 hr2 hq2 hB2 ⊢
  clear x0 x1
  refine (specStoreOk_any a n cap nx J _ hr2 HJ.out (by omega) HS.out HL.out).mono ?_
  rintro e w3 ⟨rfl, hb3⟩
  have hP3 := box_step hP2 hb3
  have hF3 := box_step hF2 hb3
  have hR3 := box_step hR2 hb3
  have hV3 := hV2.later hb3
  have hq3 := hq2.below hb3
  have hB3 := hB2.trans (hb3.mono hB2.size)
  have hl3 : w0.heap.size ≤ w3.heap.size := Nat.le_trans hb2.size hb3.size
  clear hA2 hP2 hF2 hR2 hV2 hq2 hB2 hr2 hb3 ba hb2 hb1 hq0 hr0 hA hF hR b2
  obtain ⟨sb, hsb⟩ : ∃ sb, storeB nx J = sb := ⟨_, rfl⟩
  have HSb := hide hsb
  rw [hsb]
  clear hsb
  obtain ⟨p0, p1, -, -⟩ := box2_cell hP3
  obtain ⟨r0, r1, rf0, rf1⟩ := box2_cell hR3
  obtain ⟨f0, f1, -, -⟩ := box2_cell hF3
  cases sb
  · have HA : Hid (asR nx J kd M = (0, nx, J.map It.pl)) := by unfold Hid asR; rw [HSb.out]; simp
    go_wp2
    refine box2_post hR3 (fun w4 h4 gr => ?_)
    clear p0 p1 r0 r1 rf0 rf1 f0 f1
    obtain ⟨d0, d1, -, -⟩ := box2_cell h4
    exact bodyPost_ret (v := .tuple #[.agg #[.slice va n vc, .int .i64 nx], .int .i64 0, .bool false]) (by simp [results, Tryd.results13, go_sem, d0, d1]) rfl
      ⟨va, vc, K, by rw [HA.out, HKn.out]; rfl, by rw [HKn.out]; exact (hV3.grown gr (by omega)).weaken (by omega), by rw [HA.out]; exact HPl.out, below_set hB3 gr (by omega)⟩
  · have hnx := (storeB_iff.1 HSb.out).1
    go_wp2_with fail
    refine (specFactOk_any kd b cb M _ hkd hq3 HSM.out hm).mono ?_
    rintro e w4 ⟨rfl, hb4⟩
    have hP4 := box_step hP3 hb4
    have hF4 := box_step hF3 hb4
    have hR4 := box_step hR3 hb4
    have hV4 := hV3.later hb4
    have hq4 := hq3.below hb4
    have hB4 := hB3.trans (hb4.mono hB3.size)
    have hl4 : w0.heap.size ≤ w4.heap.size := Nat.le_trans hl3 hb4.size
    clear p0 p1 r0 r1 rf0 rf1 f0 f1 hP3 hF3 hR3 hV3 hq3 hB3 hb4 hl3
    obtain ⟨fb, hfb⟩ : ∃ fb, factB kd M = fb := ⟨_, rfl⟩
    have HFb := hide hfb
    rw [hfb]
    clear hfb
    obtain ⟨p0, p1, -, -⟩ := box2_cell hP4
    obtain ⟨r0, r1, rf0, rf1⟩ := box2_cell hR4
    obtain ⟨f0, f1, -, -⟩ := box2_cell hF4
    cases fb
    · have HA : Hid (asR nx J kd M = (0, nx, J.map It.pl)) := by unfold Hid asR; rw [HFb.out]; simp
      go_wp2
      refine box2_post hR4 (fun w5 h5 gr => ?_)
      clear p0 p1 r0 r1 rf0 rf1 f0 f1
      obtain ⟨d0, d1, -, -⟩ := box2_cell h5
      exact bodyPost_ret (v := .tuple #[.agg #[.slice va n vc, .int .i64 nx], .int .i64 0, .bool false]) (by simp [results, Tryd.results13, go_sem, d0, d1]) rfl
        ⟨va, vc, K, by rw [HA.out, HKn.out]; rfl, by rw [HKn.out]; exact (hV4.grown gr (by omega)).weaken (by omega), by rw [HA.out]; exact HPl.out, below_set hB4 gr (by omega)⟩
    · have HA : Hid (asR nx J kd M = assP (K.map It.pl) nx kd M) := by unfold Hid asR; rw [HSb.out, HFb.out, HPl.out]; simp
      go_wp2_with fail
      refine (l4Assert_any w1.heap.size w0.heap.size n vc cb va b nx kd K M _ hP4 hV4 HKn.out hn (pl_L HPl.out HL.out) hq4 hm hw1 hl4 (by omega)).mono ?_
      rw [← HA.out]
      obtain ⟨⟨r, nx', Kp⟩, hra⟩ : ∃ y, asR nx J kd M = y := ⟨_, rfl⟩
      rw [hra]
      rintro e w5 ⟨rfl, va', vc', K', hP5, hV5, hpl5, hb5⟩
      have hR5 := (hb5.block (w.heap.size + 1 + 1) (by omega)).trans hR4
      have hB5 := hB4.trans (hb5.mono (by omega))
      clear p0 p1 r0 r1 rf0 rf1 f0 f1 hP4 hF4 hR4 hV4 hq4 hB4 HA
      obtain ⟨p0, p1, -, -⟩ := box2_cell hP5
      obtain ⟨r0, r1, rf0, rf1⟩ := box2_cell hR5
      simp only at p0 p1 hpl5
      have HRa := hide hra
      clear hra
      by_cases h0 : 0 < r
      · go_wp2
        refine box2_post hR5 (fun w6 h6 gr => ?_)
        clear p0 p1 r0 r1 rf0 rf1
        obtain ⟨d0, d1, -, -⟩ := box2_cell h6
        exact bodyPost_ret (v := .tuple #[.agg #[.slice va' K'.length vc', .int .i64 nx'], .int .i64 r, .bool true]) (by simp [results, Tryd.results13, go_sem, d0, d1]) rfl
          ⟨va', vc', K', by rw [HRa.out, decide_eq_true h0], (hV5.grown gr (by omega)).weaken (by omega), by rw [HRa.out]; exact hpl5, below_set hB5 gr (by omega)⟩
      · have h0' : r ≤ 0 := by omega
        go_wp2
        refine box2_post hR5 (fun w6 h6 gr => ?_)
        clear p0 p1 r0 r1 rf0 rf1
        obtain ⟨d0, d1, -, -⟩ := box2_cell h6
        exact bodyPost_ret (v := .tuple #[.agg #[.slice va' K'.length vc', .int .i64 nx'], .int .i64 r, .bool false]) (by simp [results, Tryd.results13, go_sem, d0, d1, h0']) rfl
          ⟨va', vc', K', by rw [HRa.out, decide_eq_false (Int.not_lt.2 h0')], (hV5.grown gr (by omega)).weaken (by omega), by rw [HRa.out]; exact hpl5, below_set hB5 gr (by omega)⟩
end Go.Proofs.YtaflokfgbmlmaadDoor
/-
  What the model's text of a number is: itoa of the number; nothing that was there has turned.
-/
namespace Go.Proofs.YtaflokfgbmlmaadDoor
open Go.RowKit
set_option linter.unusedVariables false

theorem conv_one (q : Nat) (c : UInt8) (d : Int) (hd : d = (c.toNat : Int)) (W : World) (h : W.cell? ⟨q, 0, none⟩ = some (.int .u8 d)) :
    (convert 47 9 (.slice (some ⟨q, 0, none⟩) 1 1)).run Tryd.prog W = .ok (.string ⟨#[c]⟩) W := by
  subst hd
  have := run_convert_bytes_back (P := Tryd.prog) W 47 9 5 ⟨q, 0, none⟩ 1 [c] Tryd.underlying47 Tryd.underlying5 Tryd.underlying9 (fun j hj => by
    obtain rfl : j = 0 := by simpa using hj
    rw [Addr.add_lit, Nat.add_zero, h]
    simp)
  simpa using this
theorem digit_byte {d : Nat} (h : d < 10) : ∃ c : UInt8, 48 + (d : Int) = (c.toNat : Int) ∧ UInt8.ofNat (48 + d) = c := ⟨_, by simp; omega, rfl⟩
theorem dec_snoc {u : Nat} (h : ¬ u < 10) : (⟨(Lib.decDigits (u / 10)).toArray⟩ : ByteArray) ++ ⟨#[UInt8.ofNat (48 + u % 10)]⟩ = ⟨(Lib.decDigits u).toArray⟩ := by
  rw [show Lib.decDigits u = Lib.decDigits (u / 10) ++ [UInt8.ofNat (48 + u % 10)] by rw [Lib.decDigits, dif_neg h]]
  apply ByteArray.ext
  rw [ByteArray.data_append]
  simp

theorem dec_size {u : Nat} (h : u ≤ 1000000000) : (⟨(Lib.decDigits u).toArray⟩ : ByteArray).size ≤ 10 := by
  have h1 := Lib.decDigits_length u
  have h2 := nDigits_10 u h
  show (Lib.decDigits u).toArray.size ≤ 10
  simp; omega

theorem below_d {w w' : World} (hb : Below w.drew.heap.size w.drew w') : Below w.heap.size w w' := ((Below.refl w.heap.size w).drew).trans hb
theorem below_da {w w' : World} (hb : Below w.drew.heap.size w.drew w') (o : Obj) : Below w.heap.size w (w'.alloc o) := (below_d hb).alloc (below_d hb).size _

end Go.Proofs.YtaflokfgbmlmaadDoor
/-
  The library's table of powers of ten.
-/
namespace Go.Proofs.YtaflokfgbmlmaadDoor
open Go.RowKit
set_option linter.unusedVariables false

/-- the library's table of powers of ten reads as its initialiser lays it -/
def Tab (w : World) : Prop := Lib.TabIs Tryd.prog w "internal/strconv.uint64pow10" .u64 Lib.pow10Tab
theorem gTab : ∃ g, Tryd.prog.globalNamed "internal/strconv.uint64pow10" = some g := Option.isSome_iff_exists.1 (by kernel_rfl)
theorem Tab.later {w w' : World} {B : Nat} (h : Tab w) (hb : Below B w w') (hB : w.heap.size ≤ B) : Tab w' := by
  obtain ⟨g, hg⟩ := gTab
  exact Joins.tab_stays hg h hb hB
end Go.Proofs.YtaflokfgbmlmaadDoor
/-
  What the texts of values are, the tested one and the model's alike: textV of the value; nothing that was there has turned. (The tested one reads the library's table of powers of ten.)
-/
namespace Go.Proofs.YtaflokfgbmlmaadDoor
open Go.RowKit
set_option linter.unusedVariables false

def textV (K N : Int) (S : ByteArray) : ByteArray :=
  if valB K N S then (if K = 1 then ⟨(Lib.itoa N).toArray⟩ else ⟨#[39]⟩ ++ S ++ ⟨#[39]⟩) else ⟨#[]⟩
theorem textV_num {N : Int} {S : ByteArray} (h : valB 1 N S = true) : textV 1 N S = ⟨(Lib.itoa N).toArray⟩ := by simp [textV, h]
theorem textV_text {K N : Int} {S : ByteArray} (h : valB K N S = true) (hk : K ≠ 1) : textV K N S = ⟨#[39]⟩ ++ S ++ ⟨#[39]⟩ := by simp [textV, h, hk]
theorem textV_no {K N : Int} {S : ByteArray} (h : valB K N S = false) : textV K N S = ⟨#[]⟩ := by simp [textV, h]
theorem ta_num_num (n : Int) (w : World) : (Instr.typeAssert (.iface 127 (.int .i64 n)) 119 127 true).run Tryd.prog w = .ok (.tuple #[.int .i64 n, .bool true]) w := by kernel_rfl
theorem ta_nil_num (w : World) : (Instr.typeAssert .nilIface 119 127 true).run Tryd.prog w = .ok (.tuple #[.int .i64 0, .bool false]) w := by kernel_rfl
theorem ta_text_num (s : ByteArray) (w : World) : (Instr.typeAssert (.iface 128 (.string s)) 119 127 true).run Tryd.prog w = .ok (.tuple #[.int .i64 0, .bool false]) w := by kernel_rfl
theorem ta_nil_text (w : World) : (Instr.typeAssert .nilIface 119 128 true).run Tryd.prog w = .ok (.tuple #[.string ⟨#[]⟩, .bool false]) w := by kernel_rfl
theorem ta_text_text (s : ByteArray) (w : World) : (Instr.typeAssert (.iface 128 (.string s)) 119 128 true).run Tryd.prog w = .ok (.tuple #[.string s, .bool true]) w := by kernel_rfl

theorem valB_texts {K N : Int} {S : ByteArray} (h : valB K N S = true) (hk : K ≠ 1) : S.size ≤ 20 := by
  by_cases h2 : K = 2
  · subst h2
    rw [valB_text] at h
    exact textB_le (by simp at h; exact h.1)
  · rw [valB_none N S hk h2] at h; cases h

set_option maxHeartbeats 1600000 in
theorem textOfSpoken_any (K N : Int) (S : ByteArray) (w : World) (ht : Tab w) :
    Calls Tryd.prog 87 #[spokV K N S] w fun e w' => e = .returned (.string (textV K N S)) ∧ Below w.heap.size w w' := by
  have t1 := ta_num_num
  have t2 := ta_nil_num
  have t3 := ta_text_num
  have t4 := ta_nil_text
  have t5 := ta_text_text
  cases hv : valB K N S
  · rw [spokV_no hv, textV_no hv]
    go_enter Tryd.func87, Tryd.ntmps87
    go_wp2
    go_ret
    exact ⟨rfl, Below.refl _ _⟩
  · by_cases hK : K = 1
    · subst hK
      have hr := hide (show -1000000000 ≤ N ∧ N ≤ 1000000000 by
        by_cases hr : -1000000000 ≤ N ∧ N ≤ 1000000000
        · exact hr
        · rw [valB_out S hr] at hv; cases hv)
      rw [spokV_one hv, textV_num hv]
      have HTab := hide ht
      clear ht hv
      go_enter Tryd.func87, Tryd.ntmps87
      go_wp2_with fail
      refine (Tryd.strconv_Itoa N (by have := hr.out; omega) (by have := hr.out; omega) _ HTab.out).mono ?_
      rintro e w1 ⟨rfl, k, os, rfl⟩
      have hb := Lib.below_grow w.heap.size w (Nat.le_refl _) k os
      generalize Sort.grow (w.drewN k) os = w1 at hb ⊢
      generalize hT : (⟨(Lib.itoa N).toArray⟩ : ByteArray) = s
      have HT := hide hT
      clear hT
      go_wp2
      go_ret
      exact ⟨by rw [HT.out]; rfl, hb⟩
    · have e : spokV K N S = .iface 128 (.string S) := by unfold spokV; rw [hv, if_pos rfl, if_neg hK]
      have hS := valB_texts hv hK
      have hc1 : (ByteArray.mk #[39]).size = 1 := rfl
      rw [e, textV_text hv hK]
      clear e hK hv
      go_enter Tryd.func87, Tryd.ntmps87
      go_wp2
      go_ret
      exact ⟨rfl, Below.refl _ _⟩

set_option maxHeartbeats 1600000 in
theorem implValText_any (K N : Int) (S : ByteArray) (w : World) (hs : S.size ≤ maxLen) (ht : Tab w) :
    Calls Tryd.prog 69 #[.agg #[.int .i64 K, .int .i64 N, .string S]] w fun e w' => e = .returned (.string (textV K N S)) ∧ Below w.heap.size w w' := by
  have HTab := hide ht
  clear ht
  go_enter Tryd.func69, Tryd.ntmps69
  go_wp2_with fail
  refine (spokenOf_any K N S _ hs).mono ?_
  rintro e w1 ⟨rfl, hb⟩
  have hb1 : Below w.heap.size w w1 := ((Below.refl w.heap.size w).alloc (Nat.le_refl _) _).trans (hb.mono (by simp))
  clear hb
  go_wp2_with fail
  refine (textOfSpoken_any K N S w1 (HTab.out.later hb1 (Nat.le_refl _))).mono ?_
  rintro e w2 ⟨rfl, hb2⟩
  have hb3 : Below w.heap.size w w2 := hb1.trans (hb2.mono hb1.size)
  clear hb2
  generalize hT : textV K N S = s
  have HT := hide hT
  clear hT
  go_wp2
  go_ret
  exact ⟨by rw [HT.out]; rfl, hb3⟩

end Go.Proofs.YtaflokfgbmlmaadDoor
/-
  The text of a value that is right is short.
-/
namespace Go.Proofs.YtaflokfgbmlmaadDoor
open Go.RowKit
set_option linter.unusedVariables false

def V3.tx (v : V3) : ByteArray := textV v.K v.N v.S
theorem tx_size {v : V3} (h : v.ok = true) : v.tx.size ≤ 22 := by
  obtain ⟨K, N, S⟩ := v
  have h' : valB K N S = true := h
  show (textV K N S).size ≤ 22
  by_cases hk : K = 1
  · subst hk
    have hN : -1000000000 ≤ N ∧ N ≤ 1000000000 := by
      by_cases hN : -1000000000 ≤ N ∧ N ≤ 1000000000
      · exact hN
      · rw [valB_out S hN] at h'; cases h'
    rw [textV_num h']
    show (Lib.itoa N).toArray.size ≤ 22
    simp only [List.size_toArray]
    by_cases hn : N < 0
    · rw [itoa_neg hn]; have := nDigits_10 N.natAbs (by omega); simp only [List.length_cons]; rw [Lib.decDigits_length]; omega
    · rw [itoa_pos hn]; have := nDigits_10 N.toNat (by omega); rw [Lib.decDigits_length]; omega
  · have hS := valB_texts h' hk
    rw [textV_text h' hk]
    have e1 : (⟨#[39]⟩ : ByteArray).size = 1 := rfl
    simp only [ByteArray.size_append, e1]; omega
end Go.Proofs.YtaflokfgbmlmaadDoor
/-
  What the text of a fact is: its kind, and the texts of its values between brackets; the model's and the tested one alike.
-/
namespace Go.Proofs.YtaflokfgbmlmaadDoor
open Go.RowKit
set_option linter.unusedVariables false

/-- the texts with commas between -/
def joinV (L : List V3) : List UInt8 := Lib.join (L.map fun v => v.tx.data.toList) [44]
theorem joinV_nil : joinV [] = [] := rfl
theorem joinV_snoc (L : List V3) (v : V3) : joinV (L ++ [v]) = if L = [] then v.tx.data.toList else joinV L ++ (44 :: v.tx.data.toList) := by
  unfold joinV Lib.join
  induction L with
  | nil => simp [List.intercalate]
  | cons a r ih =>
    rw [if_neg (by simp)]
    cases r with
    | nil => simp [List.intercalate]
    | cons b s =>
      rw [if_neg (by simp)] at ih
      simp only [List.map_append, List.map_cons, List.map_nil, List.cons_append] at ih ⊢
      have e : ∀ (p q : List UInt8) (t : List (List UInt8)), List.intercalate [44] (p :: q :: t) = p ++ (44 :: List.intercalate [44] (q :: t)) := fun p q t => by simp [List.intercalate, List.intersperse]
      rw [e, e, ih]
      simp
theorem joinV_take {L : List V3} (h : ∀ v ∈ L, v.ok = true) : ∀ k, k ≤ L.length → (joinV (L.take k)).length ≤ 23 * k
  | 0, _ => by simp [joinV_nil]
  | k + 1, hk => by
    have ih := joinV_take h k (by omega)
    have h2 := tx_size (h L[k] (List.getElem_mem (by omega)))
    have e : L[k].tx.data.toList.length = L[k].tx.size := by rw [Array.length_toList]; rfl
    rw [List.take_succ_eq_append_getElem (by omega), joinV_snoc]
    split
    · omega
    · simp only [List.length_append, List.length_cons]; omega
def factT (kd : ByteArray) (L : List V3) : ByteArray := if factB kd L then kd ++ (⟨#[40]⟩ ++ ⟨(joinV L).toArray⟩ ++ ⟨#[41]⟩) else ⟨#[]⟩

theorem ok_at {L : List V3} (h : ∀ v ∈ L, v.ok = true) {k : Nat} (hk : k < L.length) : (vAt L k).ok = true := by rw [vAt_in hk]; exact h _ (List.getElem_mem hk)

end Go.Proofs.YtaflokfgbmlmaadDoor
/-
  What the model answers for a fact's text: factT.
-/
namespace Go.Proofs.YtaflokfgbmlmaadDoor
open Go.RowKit
set_option linter.unusedVariables false

theorem factT_no {kd : ByteArray} {L : List V3} (h : factB kd L = false) : factT kd L = ⟨#[]⟩ := by unfold factT; rw [if_neg (by rw [h]; simp)]
theorem factT_yes {kd : ByteArray} {L : List V3} (h : factB kd L = true) : factT kd L = kd ++ (⟨#[40]⟩ ++ ⟨(joinV L).toArray⟩ ++ ⟨#[41]⟩) := by unfold factT; rw [if_pos h]
theorem factB_open {kd : ByteArray} {L : List V3} (h : factB kd L = true) : nameB kd = true ∧ L.length ≤ 5 ∧ ∀ v ∈ L, v.ok = true := by
  unfold factB at h
  simp only [Bool.and_eq_true, decide_eq_true_eq, List.all_eq_true] at h
  exact ⟨h.1.1, h.1.2, h.2⟩
theorem joinV_le {L : List V3} (h : ∀ v ∈ L, v.ok = true) : (joinV L).length ≤ 23 * L.length := by
  have := joinV_take h L.length (Nat.le_refl _)
  rwa [List.take_length] at this
theorem name_size {s : ByteArray} (h : nameB s = true) : s.size ≤ 12 := by
  unfold nameB inB at h
  simp only [Bool.and_eq_true, decide_eq_true_eq] at h
  omega
theorem keepT {w0 W w' : World} {B : Nat} {p0 p1 : Addr} {v0 v1 : Value} {a : Option Addr} {L : List V3} (hb : Below W.heap.size W w')
    (h : W.cell? p0 = some v0 ∧ W.cell? p1 = some v1 ∧ RdV W a L ∧ Below B w0 W ∧ B ≤ W.heap.size) :
    w'.cell? p0 = some v0 ∧ w'.cell? p1 = some v1 ∧ RdV w' a L ∧ Below B w0 w' ∧ B ≤ w'.heap.size := by
  obtain ⟨h0, h1, h2, h3, h4⟩ := h
  have k : ∀ {a : Addr} {v : Value}, W.cell? a = some v → w'.cell? a = some v := fun {a v} h => by rw [hb.cell (World.block_lt_of_cell? W _ h)]; exact h
  exact ⟨k h0, k h1, h2.below hb, h3.trans (hb.mono h4), Nat.le_trans h4 hb.size⟩
theorem rdT {w0 W : World} {B : Nat} {p0 p1 : Addr} {v0 v1 : Value} {a : Option Addr} {L : List V3}
    (h : W.cell? p0 = some v0 ∧ W.cell? p1 = some v1 ∧ RdV W a L ∧ Below B w0 W ∧ B ≤ W.heap.size) : RdV W a L := h.2.2.1

end Go.Proofs.YtaflokfgbmlmaadDoor
/-
  Rows of bytes: what a slice of bytes reads as (Rd), what a call's own row holds (vals), and the contracts of the laws' own helpers on them: toByteS copies, eqByteS tells whether two are the same.
-/
namespace Go.Proofs.YtaflokfgbmlmaadDoor
open Go.RowKit
set_option linter.unusedVariables false

theorem Tryd.info5 : (Tryd.prog.info? 5).map (fun i => (i.zero, i.size, i.bytes)) = some (some (.int .u8 0), 1, 1) := by kernel_rfl

/-- the i-th byte as a number -/
def byteAt (bs : List UInt8) (i : Nat) : Int := ((bs.getD i 0).toNat : Int)
theorem byteAt_lo (bs : List UInt8) (i : Nat) : 0 ≤ byteAt bs i := by unfold byteAt; omega
theorem byteAt_hi (bs : List UInt8) (i : Nat) : byteAt bs i ≤ 255 := by
  unfold byteAt; have := (bs.getD i 0).toNat_lt; omega

def vals (bs : List UInt8) : List Value := bs.map (fun b => Value.int .u8 (b.toNat : Int))
theorem vals_length (bs : List UInt8) : (vals bs).length = bs.length := by simp [vals]
theorem vals_get {bs : List UInt8} {i : Nat} (h : i < bs.length) : (vals bs)[i]? = some (.int .u8 (byteAt bs i)) := by
  unfold vals byteAt
  rw [List.getElem?_map, List.getElem?_eq_getElem h]
  simp [List.getD, h]
theorem vals_append (a b : List UInt8) : vals (a ++ b) = vals a ++ vals b := by simp [vals]

/-- what the slice at 'a' reads as -/
def Rd (w : World) (a : Option Addr) (bs : List UInt8) : Prop :=
  ∀ i, i < bs.length → ∃ b off, a = some ⟨b, off, none⟩ ∧ w.cell? ⟨b, off + i, none⟩ = some (.int .u8 (byteAt bs i))

theorem Rd.open {w : World} {a : Option Addr} {bs : List UInt8} (h : Rd w a bs) (hp : 0 < bs.length) :
    ∃ b off, a = some ⟨b, off, none⟩ ∧ b < w.heap.size ∧ ∀ i, i < bs.length → w.cell? ⟨b, off + i, none⟩ = some (.int .u8 (byteAt bs i)) := by
  obtain ⟨b, off, rfl, h0⟩ := h 0 hp
  refine ⟨b, off, rfl, World.block_lt_of_cell? w _ h0, fun i hi => ?_⟩
  obtain ⟨b2, off2, e, h1⟩ := h i hi
  simp only [Option.some.injEq, Addr.mk.injEq] at e
  rw [e.1, e.2.1]; exact h1

theorem Rd.below {w w' : World} {a : Option Addr} {bs : List UInt8} (h : Rd w a bs) (hb : Below w.heap.size w w') : Rd w' a bs := by
  intro i hi
  obtain ⟨b, off, e, hc⟩ := h i hi
  exact ⟨b, off, e, by rw [hb.cell (p := ⟨b, off + i, none⟩) (World.block_lt_of_cell? w _ hc)]; exact hc⟩

theorem Rd.heap {w w' : World} {a : Option Addr} {bs : List UInt8} (h : Rd w a bs) (hb : w'.heap = w.heap) : Rd w' a bs := by
  intro i hi
  obtain ⟨b, off, e, hc⟩ := h i hi
  exact ⟨b, off, e, by rw [← hc]; simp [World.cell?, hb]⟩

/-- what a call's own row of bytes reads as -/
theorem rd_owns {w : World} {base n : Nat} {v : Value} {bs : List UInt8} (h : w.ownsRow base 5 1 v n (vals bs)) :
    ∃ a cap, v = .slice a bs.length cap ∧ Rd w a bs ∧ n = bs.length := by
  have hn : n = bs.length := by have := h.1; rw [vals_length] at this; omega
  subst hn
  rcases h.2 with ⟨rfl, h0⟩ | ⟨g, cap, cur, rfl, hb, hg, hnc, hcm, hsz, htake⟩
  · exact ⟨none, 0, by rw [h0], fun i hi => by omega, rfl⟩
  · refine ⟨_, cap, rfl, fun i hi => ⟨g, 0, rfl, ?_⟩, rfl⟩
    have := h.cellAt i (by omega)
    rw [vals_get hi] at this
    rw [← this]; simp

/-- the row of bytes that came in -/
def IsRow (k : IntKind) (w : World) (a : Option Addr) (len cap : Nat) (zs : List Int) : Prop :=
  (a = none ∧ len = 0 ∧ cap = 0 ∧ zs = []) ∨
  ∃ x, a = some x ∧ len ≤ cap ∧ cap ≤ maxLen ∧ zs.length = cap ∧ (∀ i, i < zs.length → w.cell? (x.add i) = some (.int k (zs.getD i 0))) ∧ ∀ n ∈ zs, (Lit.int k n).wf = true

theorem isRow_len {k : IntKind} {w : World} {a : Option Addr} {len cap : Nat} {zs : List Int} (h : IsRow k w a len cap zs) : len ≤ maxLen := by
  rcases h with ⟨rfl, rfl, rfl, rfl⟩ | ⟨x, rfl, hl, hm, hz, hcell, hwz⟩
  · exact Nat.zero_le _
  · exact Nat.le_trans hl hm
theorem below_drewN (B : Nat) (w : World) (n : Nat) : Below B w (w.drewN n) := ⟨rfl, rfl, rfl, Nat.le_refl _, fun _ _ => rfl⟩

theorem rd_row {w : World} {a : Option Addr} {len cap : Nat} {zs : List Int} (h : IsRow .u8 w a len cap zs) :
    ∃ bs : List UInt8, bs.length = len ∧ Rd w a bs := by
  rcases h with ⟨rfl, rfl, rfl, rfl⟩ | ⟨x, rfl, hl, hm, hz, hcell, hwz⟩
  · exact ⟨[], rfl, fun i hi => by simp at hi⟩
  · refine ⟨(zs.take len).map (fun n => UInt8.ofNat n.toNat), by simp; omega, fun i hi => ?_⟩
    have hi2 : i < len := by simp at hi; omega
    obtain ⟨b, off, spot⟩ := x
    have hc := hcell i (by omega)
    have hs : spot = none := by
      have h0 := hcell 0 (by omega)
      simpa [Addr.add] using World.cell?_spot h0
    subst hs
    refine ⟨b, off, rfl, ?_⟩
    have e : (⟨b, off, none⟩ : Addr).add i = ⟨b, off + i, none⟩ := Addr.add_lit _ _ _
    rw [e] at hc
    rw [hc]
    have hiz : i < zs.length := by omega
    have hw := hwz zs[i] (List.getElem_mem hiz)
    have hb := bounds_u8 hw
    unfold byteAt
    simp [List.getD, hiz, hi2]
    omega

theorem rd_cells {w : World} {p : Addr} {bs : List UInt8} (hr : Rd w (some p) bs) : ∀ j u, (vals bs)[j]? = some u → w.cell? (p.add j) = some u := by
  intro j u hj
  have hl : j < bs.length := by have := (List.getElem?_eq_some_iff.1 hj).1; rw [vals_length] at this; exact this
  rw [vals_get hl] at hj
  obtain ⟨b, off, e, hc⟩ := hr j hl
  simp only [Option.some.injEq] at e
  subst e
  rw [Addr.add_lit, hc]; exact hj

/-- a row of the call's own, at hand for the readers -/
theorem rd_owns_cap {w : World} {base n : Nat} {v : Value} {bs : List UInt8} (h : w.ownsRow base 5 1 v n (vals bs)) :
    ∃ a cap, v = .slice a bs.length cap ∧ Rd w a bs ∧ bs.length ≤ cap ∧ (a = none → bs.length = 0 ∧ cap = 0) := by
  have hn : n = bs.length := by have := h.1; rw [vals_length] at this; omega
  subst hn
  obtain ⟨a, cap, e, hr, -⟩ := rd_owns h
  rcases h.2 with ⟨h1, h0⟩ | ⟨g, cap', cur, h1, hb, hg, hnc, hcm, hsz, htake⟩
  · rw [e] at h1
    simp only [Value.slice.injEq] at h1
    exact ⟨a, cap, e, hr, by omega, fun _ => ⟨h0, h1.2.2⟩⟩
  · rw [e] at h1
    simp only [Value.slice.injEq] at h1
    exact ⟨a, cap, e, hr, by omega, fun hh => by rw [h1.1] at hh; cases hh⟩

end Go.Proofs.YtaflokfgbmlmaadDoor
/-
  Plain facts on bits of an int that is not below 0.
-/
namespace Go.Proofs.YtaflokfgbmlmaadDoor
open Go.RowKit
set_option linter.unusedVariables false

theorem i64_xor_nat (a b : Nat) (ha : a < 9223372036854775808) (hb : b < 9223372036854775808) : bits .xor .i64 (a : Int) (b : Int) = ((a ^^^ b : Nat) : Int) := by
  have hx : a ^^^ b < 2 ^ 63 := Nat.xor_lt_two_pow (by omega) (by omega)
  show IntKind.i64.wrap ((BitVec.ofInt 64 (a : Int) ^^^ BitVec.ofInt 64 (b : Int)).toNat : Int) = _
  rw [BitVec.toNat_xor, ofInt_u64 a (by omega), ofInt_u64 b (by omega)]
  exact IntWalk.i64_in _ (by omega)
theorem i64_and_nat (a b : Nat) (ha : a < 9223372036854775808) (hb : b < 9223372036854775808) : bits .and .i64 (a : Int) (b : Int) = ((a &&& b : Nat) : Int) := by
  have hx : a &&& b < 2 ^ 63 := Nat.and_lt_two_pow _ (by omega)
  show IntKind.i64.wrap ((BitVec.ofInt 64 (a : Int) &&& BitVec.ofInt 64 (b : Int)).toNat : Int) = _
  rw [BitVec.toNat_and, ofInt_u64 a (by omega), ofInt_u64 b (by omega)]
  exact IntWalk.i64_in _ (by omega)
theorem i64_or_nat (a b : Nat) (ha : a < 9223372036854775808) (hb : b < 9223372036854775808) : bits .or .i64 (a : Int) (b : Int) = ((a ||| b : Nat) : Int) := by
  have hx : a ||| b < 2 ^ 63 := Nat.or_lt_two_pow (by omega) (by omega)
  show IntKind.i64.wrap ((BitVec.ofInt 64 (a : Int) ||| BitVec.ofInt 64 (b : Int)).toNat : Int) = _
  rw [BitVec.toNat_or, ofInt_u64 a (by omega), ofInt_u64 b (by omega)]
  exact IntWalk.i64_in _ (by omega)

theorem u8_and127 (c : Int) (h0 : 0 ≤ c) (h1 : c ≤ 255) : bits .and .u8 c 127 = c % 128 := by
  have := u8_and c 127 h0 (by omega) (by omega) (by omega)
  rw [this, show (127 : Int).toNat = 127 from rfl, nat_mask7]
  omega

/-- the sum's step on one bit -/
def cstep (x : Nat) : Nat := if x % 2 = 1 then (x / 2) ^^^ 2197175160 else x / 2
def cstepN : Nat → Nat → Nat
  | 0, x => x
  | k + 1, x => cstep (cstepN k x)
def cbyte (x c : Nat) : Nat := cstepN 8 (x ^^^ c)
theorem cstep_lt {x : Nat} (h : x < 4294967296) : cstep x < 4294967296 := by
  unfold cstep
  split
  · exact Nat.xor_lt_two_pow (n := 32) (by omega) (by omega)
  · omega
theorem cstepN_lt {x : Nat} (h : x < 4294967296) : ∀ k, cstepN k x < 4294967296
  | 0 => h
  | k + 1 => cstep_lt (cstepN_lt h k)
theorem cxor_lt {x c : Nat} (h : x < 4294967296) (hc : c < 4294967296) : x ^^^ c < 4294967296 := Nat.xor_lt_two_pow (n := 32) (by omega) (by omega)
theorem cbyte_lt {x c : Nat} (h : x < 4294967296) (hc : c < 256) : cbyte x c < 4294967296 := cstepN_lt (cxor_lt h (by omega)) 8
end Go.Proofs.YtaflokfgbmlmaadDoor
/-
  Numbers in bytes, plainly: what GetNum reads (numR) and what PutNum writes (encN), and that they are inverse. No program is spoken of here.
-/
namespace Go.Proofs.YtaflokfgbmlmaadDoor
open Go.RowKit
set_option linter.unusedVariables false

def accN (bs : List UInt8) (A : Nat) : Nat → Nat
  | 0 => 0
  | k + 1 => accN bs A k + (byteAt bs (A + k)).toNat % 128 * 128 ^ k
theorem accN_lt (bs : List UInt8) (A : Nat) : ∀ k, accN bs A k < 128 ^ k
  | 0 => by show 0 < 1; omega
  | k + 1 => by
    have h := accN_lt bs A k
    show accN bs A k + (byteAt bs (A + k)).toNat % 128 * 128 ^ k < 128 ^ (k + 1)
    have h2 : (byteAt bs (A + k)).toNat % 128 ≤ 127 := by omega
    have h3 := Nat.mul_le_mul_right (128 ^ k) h2
    rw [Nat.pow_succ]
    omega
/-- where the last group of a number stands: the first byte below 128, at most five bytes on -/
def scanN (bs : List UInt8) (A : Nat) : Nat → Nat → Option Nat
  | 0, _ => none
  | f + 1, k => if A + k < bs.length then (if byteAt bs (A + k) < 128 then some k else scanN bs A f (k + 1)) else none
def unfN (m : Nat) : Int := if m % 2 = 1 then -((m / 2 : Nat) : Int) - 1 else ((m / 2 : Nat) : Int)
/-- what GetNum answers -/
def numR (bs : List UInt8) (at' : Int) : Int × Int × Bool :=
  if at' < 0 then (0, 0, false)
  else match scanN bs at'.toNat 5 0 with
    | none => (0, 0, false)
    | some k => if (k ≠ 0 ∧ byteAt bs (at'.toNat + k) = 0) ∨ 2000000000 < accN bs at'.toNat (k + 1) then (0, 0, false)
      else (unfN (accN bs at'.toNat (k + 1)), at' + k + 1, true)

theorem scanN_out {bs : List UInt8} {A : Nat} (h : bs.length ≤ A) (f k : Nat) : scanN bs A f k = none := by
  cases f with
  | zero => rfl
  | succ f => unfold scanN; rw [if_neg (by omega)]
theorem or_acc {a x k : Nat} (ha : a < 128 ^ k) : a ||| (x * 128 ^ k) = a + x * 128 ^ k := by
  have e : (128 : Nat) ^ k = 2 ^ (7 * k) := by rw [Nat.pow_mul]
  rw [e] at ha ⊢
  rw [Nat.or_comm, Nat.add_comm]
  exact nat_join (7 * k) (x * 2 ^ (7 * k)) a (Nat.mul_mod_left _ _) ha
theorem pow128_le {k : Nat} (h : k ≤ 5) : 128 ^ k ≤ 34359738368 := by
  have : (128 : Nat) ^ k ≤ 128 ^ 5 := Nat.pow_le_pow_right (by omega) h
  exact this
theorem or_step {m k : Nat} {c : Int} (hm : m < 128 ^ k) (hk : k < 5) (h0 : 0 ≤ c) (h1 : c ≤ 255) :
    bits .or .i64 (m : Int) (wrap64 (c % 128 * 2 ^ (7 * k))) = ((m + c.toNat % 128 * 128 ^ k : Nat) : Int) := by
  obtain ⟨d, rfl⟩ := Int.eq_ofNat_of_zero_le h0
  have hp := pow128_le (k := k) (by omega)
  have e : ((d : Int) % 128 * 2 ^ (7 * k)) = ((d % 128 * 128 ^ k : Nat) : Int) := by
    have e2 : ((2 : Int) ^ (7 * k)) = ((128 ^ k : Nat) : Int) := by
      rw [show (128 : Nat) ^ k = 2 ^ (7 * k) by rw [Nat.pow_mul]]
      exact (Int.natCast_pow 2 (7 * k)).symm
    rw [e2, Int.natCast_mul]
    rfl
  have hb : d % 128 * 128 ^ k ≤ 127 * 34359738368 := Nat.mul_le_mul (by omega) hp
  rw [e, IntWalk.wrap64_in _ (by omega), i64_or_nat _ _ (by omega) (by omega), or_acc hm]
  simp
theorem scanN_end {bs : List UInt8} {A k : Nat} (h5 : k < 5) (h : ¬ A + k < bs.length) : scanN bs A (5 - k) k = none := by
  rw [show 5 - k = (4 - k) + 1 by omega]
  unfold scanN
  rw [if_neg h]
theorem scanN_last {bs : List UInt8} {A k : Nat} (h5 : k < 5) (h : A + k < bs.length) (hc : byteAt bs (A + k) < 128) : scanN bs A (5 - k) k = some k := by
  rw [show 5 - k = (4 - k) + 1 by omega]
  unfold scanN
  rw [if_pos h, if_pos hc]
theorem scanN_more {bs : List UInt8} {A k : Nat} (h5 : k < 5) (h : A + k < bs.length) (hc : ¬ byteAt bs (A + k) < 128) : scanN bs A (5 - k) k = scanN bs A (5 - (k + 1)) (k + 1) := by
  rw [show 5 - k = (5 - (k + 1)) + 1 by omega]
  rw [scanN, if_pos h, if_neg hc]
theorem scanN_ge {bs : List UInt8} {A : Nat} : ∀ f k r, scanN bs A f k = some r → k ≤ r ∧ r < k + f
  | 0, k, r, h => by simp [scanN] at h
  | f + 1, k, r, h => by
    unfold scanN at h
    split at h
    · split at h
      · simp at h; omega
      · have := scanN_ge f (k + 1) r h; omega
    · simp at h
theorem scanN_lt {bs : List UInt8} {A r : Nat} (h : scanN bs A 5 0 = some r) : r < 5 := by have := scanN_ge 5 0 r h; omega
theorem numR_none {bs : List UInt8} {A : Nat} (h : scanN bs A 5 0 = none) : numR bs (A : Int) = (0, 0, false) := by
  unfold numR
  rw [if_neg (by omega), Int.toNat_natCast, h]
theorem numR_some {bs : List UInt8} {A k : Nat} (h : scanN bs A 5 0 = some k) : numR bs (A : Int) = if (k ≠ 0 ∧ byteAt bs (A + k) = 0) ∨ 2000000000 < accN bs A (k + 1) then (0, 0, false) else (unfN (accN bs A (k + 1)), (A : Int) + k + 1, true) := by
  unfold numR
  rw [if_neg (by omega), Int.toNat_natCast, h]
theorem numR_neg {bs : List UInt8} {a : Int} (h : a < 0) : numR bs a = (0, 0, false) := by
  unfold numR
  rw [if_pos h]
theorem numR_past {bs : List UInt8} {a : Int} (h : (bs.length : Int) ≤ a) : numR bs a = (0, 0, false) := by
  obtain ⟨A, rfl⟩ := Int.eq_ofNat_of_zero_le (show 0 ≤ a by omega)
  exact numR_none (scanN_out (by omega) _ _)
theorem unfN_odd {m : Nat} (h : m % 2 = 1) : unfN m = -((m : Int) / 2) - 1 := by unfold unfN; rw [if_pos h]; omega
theorem unfN_even {m : Nat} (h : ¬ m % 2 = 1) : unfN m = (m : Int) / 2 := by unfold unfN; rw [if_neg h]; omega
theorem unfN_in (m : Nat) : inB (unfN m) (-1000000000) 1000000000 = !decide (2000000000 < m) := by
  by_cases h : m % 2 = 1
  · rw [unfN_odd h]
    by_cases h2 : 2000000000 < m
    · rw [inB_f (by omega)]; simp [h2]
    · rw [inB_t (by omega)]; simp [h2]
  · rw [unfN_even h]
    by_cases h2 : 2000000000 < m
    · rw [inB_f (by omega)]; simp [h2]
    · rw [inB_t (by omega)]; simp [h2]
theorem ret_num {bs : List UInt8} {A : Nat} {x y : Int} {z : Bool} (h : numR bs (A : Int) = (x, y, z)) :
    Ending.returned (.tuple #[.int .i64 x, .int .i64 y, .bool z]) = .returned (.tuple #[.int .i64 (numR bs (A : Int)).1, .int .i64 (numR bs (A : Int)).2.1, .bool (numR bs (A : Int)).2.2]) := by rw [h]

/-- what the groups at a place hold: the number as it was folded, the place behind, whether the form is the shortest -/
def grpR (bs : List UInt8) (A : Nat) : Int × Int × Bool :=
  match scanN bs A 5 0 with
  | none => (0, 0, false)
  | some k => (((accN bs A (k + 1) : Nat) : Int), (A : Int) + k + 1, k == 0 || byteAt bs (A + k) != 0)
theorem grpR_none {bs : List UInt8} {A : Nat} (h : scanN bs A 5 0 = none) : grpR bs A = (0, 0, false) := by unfold grpR; rw [h]
theorem grpR_some {bs : List UInt8} {A k : Nat} (h : scanN bs A 5 0 = some k) : grpR bs A = (((accN bs A (k + 1) : Nat) : Int), (A : Int) + k + 1, k == 0 || byteAt bs (A + k) != 0) := by unfold grpR; rw [h]
theorem ret_grp {bs : List UInt8} {A : Nat} {x y : Int} {z : Bool} (h : grpR bs A = (x, y, z)) :
    Ending.returned (.tuple #[.int .i64 x, .int .i64 y, .bool z]) = .returned (.tuple #[.int .i64 (grpR bs A).1, .int .i64 (grpR bs A).2.1, .bool (grpR bs A).2.2]) := by rw [h]
/-- the number out of its groups -/
theorem numR_grp (bs : List UInt8) (A : Nat) : ∃ M : Nat, M < 34359738368 ∧ (grpR bs A).1 = (M : Int) ∧
    numR bs (A : Int) = if (grpR bs A).2.2 = false ∨ 2000000000 < M then (0, 0, false) else (unfN M, (grpR bs A).2.1, true) := by
  cases h : scanN bs A 5 0 with
  | none => exact ⟨0, by omega, by rw [grpR_none h]; rfl, by rw [numR_none h, grpR_none h]; simp⟩
  | some k =>
    have hk : k < 5 := scanN_lt h
    have hlt := accN_lt bs A (k + 1)
    have hp := pow128_le (k := k + 1) (by omega)
    refine ⟨accN bs A (k + 1), by omega, by rw [grpR_some h], ?_⟩
    rw [numR_some h, grpR_some h]
    by_cases h1 : k = 0 <;> by_cases h2 : byteAt bs (A + k) = 0 <;> by_cases h3 : 2000000000 < accN bs A (k + 1) <;> simp [h1, h2, h3]

theorem scanN_some {bs : List UInt8} {A : Nat} : ∀ f k r, scanN bs A f k = some r → A + r < bs.length
  | 0, k, r, h => by simp [scanN] at h
  | f + 1, k, r, h => by
    unfold scanN at h
    split at h
    · split at h
      · simp at h; omega
      · exact scanN_some f (k + 1) r h
    · simp at h
/-- a number that was read lies within the bytes -/
theorem numR_true {bs : List UInt8} {x : Int} (h : (numR bs x).2.2 = true) : 0 ≤ x ∧ x < (numR bs x).2.1 ∧ (numR bs x).2.1 ≤ bs.length := by
  by_cases h0 : x < 0
  · rw [numR_neg h0] at h; cases h
  · obtain ⟨A, rfl⟩ := Int.eq_ofNat_of_zero_le (show 0 ≤ x by omega)
    cases hs : scanN bs A 5 0 with
    | none => rw [numR_none hs] at h; cases h
    | some k =>
      rw [numR_some hs] at h ⊢
      split at h
      · cases h
      · rename_i hc
        rw [if_neg hc]
        have := scanN_some 5 0 k hs
        simp only
        omega
end Go.Proofs.YtaflokfgbmlmaadDoor
/-
  Numbers as bytes, plainly: what PutNum writes behind. No program is spoken of here.
-/
namespace Go.Proofs.YtaflokfgbmlmaadDoor
open Go.RowKit
set_option linter.unusedVariables false

/-- the number as it is kept: no further out than the most either way -/
def clampN (n : Int) : Int := if n < -1000000000 then -1000000000 else if 1000000000 < n then 1000000000 else n
def foldN (n : Int) : Nat := if n < 0 then (-2 * n - 1).toNat else (2 * n).toNat
/-- its groups of seven bits, the lowest first -/
def encG : Nat → Nat → List UInt8
  | 0, m => [UInt8.ofNat m]
  | f + 1, m => if m < 128 then [UInt8.ofNat m] else UInt8.ofNat (m % 128 + 128) :: encG f (m / 128)
def encN (n : Int) : List UInt8 := encG 5 (foldN (clampN n))

theorem clampN_in (n : Int) : -1000000000 ≤ clampN n ∧ clampN n ≤ 1000000000 := by unfold clampN; split; omega; split <;> omega
theorem foldN_le {n : Int} (h : -1000000000 ≤ n ∧ n ≤ 1000000000) : foldN n ≤ 2000000000 := by unfold foldN; split <;> omega
theorem foldN_neg {n : Int} (h : n < 0) : ((foldN n : Nat) : Int) = -2 * n - 1 := by unfold foldN; rw [if_pos h]; omega
theorem foldN_pos {n : Int} (h : ¬ n < 0) : ((foldN n : Nat) : Int) = 2 * n := by unfold foldN; rw [if_neg h]; omega
theorem fold_cases (n : Int) : (1000000000 < n ∧ ((foldN (clampN n) : Nat) : Int) = 2000000000) ∨ (n < -1000000000 ∧ ((foldN (clampN n) : Nat) : Int) = 1999999999) ∨
    ((-1000000000 ≤ n ∧ n < 0) ∧ ((foldN (clampN n) : Nat) : Int) = -2 * n - 1) ∨ ((0 ≤ n ∧ n ≤ 1000000000) ∧ ((foldN (clampN n) : Nat) : Int) = 2 * n) := by
  unfold clampN
  split
  · rw [foldN_neg (by omega)]; omega
  · split
    · rw [foldN_pos (by omega)]; omega
    · by_cases h : n < 0
      · rw [foldN_neg h]; omega
      · rw [foldN_pos h]; omega
theorem encG_length : ∀ f m, (encG f m).length ≤ f + 1
  | 0, m => by simp [encG]
  | f + 1, m => by
    unfold encG
    split
    · simp
    · have := encG_length f (m / 128); simp; omega
theorem encN_length (n : Int) : (encN n).length ≤ 6 := encG_length 5 _
theorem encG_small {f m : Nat} (h : m < 128) : encG f m = [UInt8.ofNat m] := by
  cases f with
  | zero => rfl
  | succ f => unfold encG; rw [if_pos h]
theorem encG_big {f m : Nat} (h : ¬ m < 128) : encG (f + 1) m = UInt8.ofNat (m % 128 + 128) :: encG f (m / 128) := by
  rw [encG, if_neg h]
theorem enc_step {f m : Nat} (hb : ¬ m < 128) (hm : m < 128 ^ f) : ∃ g, f = g + 1 ∧ m / 128 < 128 ^ g ∧ encG f m = UInt8.ofNat (m % 128 + 128) :: encG g (m / 128) := by
  cases f with
  | zero => simp at hm; omega
  | succ g =>
    refine ⟨g, rfl, ?_, encG_big hb⟩
    rw [Nat.pow_succ] at hm
    exact Nat.div_lt_of_lt_mul (by omega)
theorem or128 (m : Nat) : bits .or .i64 ((m : Int) % 128) 128 = (m : Int) % 128 + 128 := by
  have h := i64_or_nat (m % 128) 128 (by omega) (by omega)
  have h2 : m % 128 ||| 128 = m % 128 + 128 := by
    rw [Nat.or_comm, Nat.add_comm]
    exact nat_join 7 128 (m % 128) (by decide) (by omega)
  rw [h2] at h
  have e : (((m % 128 : Nat) : Int)) = (m : Int) % 128 := by omega
  rw [e] at h
  rw [show ((m % 128 + 128 : Nat) : Int) = (m : Int) % 128 + 128 by omega] at h
  exact h
theorem vals_cont (m : Nat) : [Value.int .u8 ((m : Int) % 128 + 128)] = vals [UInt8.ofNat (m % 128 + 128)] := by
  simp [vals]; omega
theorem vals_last {m : Nat} (h : m < 128) : [Value.int .u8 (m : Int)] = vals [UInt8.ofNat m] := by
  simp [vals]; omega
theorem one_cell (v : Value) (w : World) (e : TypeId) : ∀ j u, [v][j]? = some u → (w.alloc (.cells #[v] e)).cell? ((⟨w.heap.size, 0, none⟩ : Addr).add j) = some u := by
  intro j u hj
  match j, hj with
  | 0, hj => simp at hj; subst hj; simp [Addr.add]
theorem vals_one (bs : List UInt8) : ∀ u ∈ vals bs, u.oneCell' = true := by
  intro u hu
  obtain ⟨_, _, rfl⟩ := List.mem_map.1 hu
  rfl
theorem pre_length {pre r : List UInt8} {n : Int} (h : pre ++ r = encN n) : pre.length ≤ 6 := by
  have := encN_length n; rw [← h] at this; simp at this; omega
theorem encG_pos : ∀ f m, 0 < (encG f m).length
  | 0, m => by simp [encG]
  | f + 1, m => by unfold encG; split <;> simp
theorem encN_pos (n : Int) : 0 < (encN n).length := encG_pos _ _
end Go.Proofs.YtaflokfgbmlmaadDoor
/-
  Texts in bytes, plainly: what GetText reads. And a slice of bytes turned into a text.
-/
namespace Go.Proofs.YtaflokfgbmlmaadDoor
open Go.RowKit
set_option linter.unusedVariables false

/-- what GetText answers -/
def textR (bs : List UInt8) (x : Int) : ByteArray × Int × Bool :=
  if (numR bs x).2.2 = false ∨ (numR bs x).1 < 0 ∨ (bs.length : Int) - (numR bs x).2.1 < (numR bs x).1 then (ByteArray.empty, 0, false)
  else (⟨((bs.drop (numR bs x).2.1.toNat).take (numR bs x).1.toNat).toArray⟩, (numR bs x).2.1 + (numR bs x).1, true)
theorem textR_no {bs : List UInt8} {x : Int} (h : (numR bs x).2.2 = false ∨ (numR bs x).1 < 0 ∨ (bs.length : Int) - (numR bs x).2.1 < (numR bs x).1) : textR bs x = (ByteArray.empty, 0, false) := by
  unfold textR; rw [if_pos h]
theorem textR_yes (bs : List UInt8) (x : Int) (P N : Nat) (h : ¬ ((numR bs x).2.2 = false ∨ (numR bs x).1 < 0 ∨ (bs.length : Int) - (numR bs x).2.1 < (numR bs x).1)) (hP : (numR bs x).2.1 = P) (hN : (numR bs x).1 = N) :
    textR bs x = (⟨((bs.drop P).take N).toArray⟩, (P : Int) + N, true) := by
  unfold textR; rw [if_neg h, hP, hN]; rfl
theorem ret_text {bs : List UInt8} {x : Int} {s : ByteArray} {y : Int} {z : Bool} (h : textR bs x = (s, y, z)) :
    Ending.returned (.tuple #[.string s, .int .i64 y, .bool z]) = .returned (.tuple #[.string (textR bs x).1, .int .i64 (textR bs x).2.1, .bool (textR bs x).2.2]) := by rw [h]

theorem conv_part {b off P N : Nat} {bs : List UInt8} {w : World} (h : P + N ≤ bs.length) (hc : ∀ i, i < bs.length → w.cell? ⟨b, off + i, none⟩ = some (.int .u8 (byteAt bs i))) (c' : Nat) :
    (convert 47 9 (.slice (some ⟨b, off + P, none⟩) N c')).run Tryd.prog w = .ok (.string ⟨((bs.drop P).take N).toArray⟩) w := by
  have hl : ((bs.drop P).take N).length = N := by simp; omega
  have := run_convert_bytes_back (P := Tryd.prog) w 47 9 5 ⟨b, off + P, none⟩ c' ((bs.drop P).take N) Tryd.underlying47 Tryd.underlying5 Tryd.underlying9 (fun j hj => by
    have hj2 : j < N := by omega
    rw [Addr.add_lit, Nat.add_assoc, hc (P + j) (by omega)]
    unfold byteAt
    simp [List.getD, show P + j < bs.length by omega])
  rw [hl] at this
  exact this

end Go.Proofs.YtaflokfgbmlmaadDoor
/-
  Numbers and texts come back of their bytes, plainly: what numR and textR read behind what encN and encT write. No program is spoken of here.
-/
namespace Go.Proofs.YtaflokfgbmlmaadDoor
open Go.RowKit
set_option linter.unusedVariables false

theorem encG_fit : ∀ f m g, m < 128 ^ (g + 1) → (encG f m).length ≤ g + 1
  | 0, m, g, h => by simp [encG]
  | f + 1, m, 0, h => by simp at h; rw [encG_small (by omega)]; simp
  | f + 1, m, g + 1, h => by
    by_cases hs : m < 128
    · rw [encG_small hs]; simp
    · rw [encG_big hs]
      have := encG_fit f (m / 128) g (by rw [Nat.pow_succ] at h; exact Nat.div_lt_of_lt_mul (by omega))
      simp; omega
theorem byteAt_ofNat {m : Nat} (h : m < 256) (r : List UInt8) : byteAt (UInt8.ofNat m :: r) 0 = (m : Int) := by
  unfold byteAt; simp [List.getD]; omega
theorem byteAt_cons (c : UInt8) (r : List UInt8) (i : Nat) : byteAt (c :: r) (i + 1) = byteAt r i := by
  unfold byteAt; simp [List.getD]
theorem byteAt_append (a b : List UInt8) (i : Nat) : byteAt (a ++ b) (a.length + i) = byteAt b i := by
  unfold byteAt; simp [List.getD, List.getElem?_append_right]

/-- the groups of m stand at A + k: the scan finds their last one, they add up to m, and their last one is 0 only where m is -/
theorem scan_enc (L : List UInt8) (A : Nat) : ∀ f m k F, m < 128 ^ (f + 1) → (encG f m).length ≤ F →
    (∀ j, j < (encG f m).length → byteAt L (A + k + j) = byteAt (encG f m) j) → A + k + (encG f m).length ≤ L.length →
    scanN L A F k = some (k + (encG f m).length - 1) ∧ accN L A (k + (encG f m).length) = accN L A k + m * 128 ^ k ∧ (byteAt L (A + (k + (encG f m).length - 1)) = 0 → m = 0)
  | f, m, k, F, hm, hF, hb, hl => by
    by_cases hs : m < 128
    · rw [encG_small hs] at hF hb hl ⊢
      simp at hF hl ⊢
      have h0 := hb 0 (by simp)
      rw [Nat.add_zero, byteAt_ofNat (by omega)] at h0
      obtain ⟨F', rfl⟩ : ∃ F', F = F' + 1 := ⟨F - 1, by omega⟩
      refine ⟨?_, ?_, ?_⟩
      · rw [scanN, if_pos (by omega), if_pos (by omega)]
      · show accN L A k + (byteAt L (A + k)).toNat % 128 * 128 ^ k = _
        rw [h0, Int.toNat_natCast, Nat.mod_eq_of_lt hs]
      · intro h; rw [h0] at h; omega
    · cases f with
      | zero => simp at hm; omega
      | succ f =>
        rw [encG_big hs] at hF hb hl ⊢
        simp only [List.length_cons] at hF hb hl ⊢
        have h0 := hb 0 (by omega)
        rw [Nat.add_zero, byteAt_ofNat (by omega)] at h0
        obtain ⟨F', rfl⟩ : ∃ F', F = F' + 1 := ⟨F - 1, by omega⟩
        have hp := encG_pos f (m / 128)
        have ih := scan_enc L A f (m / 128) (k + 1) F' (by rw [Nat.pow_succ] at hm; exact Nat.div_lt_of_lt_mul (by omega)) (by omega)
          (fun j hj => by
            have := hb (j + 1) (by omega)
            rw [byteAt_cons] at this
            rw [← this, show A + (k + 1) + j = A + k + (j + 1) by omega])
          (by omega)
        obtain ⟨i1, i2, i3⟩ := ih
        refine ⟨?_, ?_, ?_⟩
        · rw [scanN, if_pos (by omega), if_neg (by omega), i1]
          congr 1; omega
        · rw [show k + ((encG f (m / 128)).length + 1) = k + 1 + (encG f (m / 128)).length by omega, i2]
          show accN L A k + (byteAt L (A + k)).toNat % 128 * 128 ^ k + m / 128 * 128 ^ (k + 1) = _
          rw [h0, Nat.pow_succ]
          have e : (((m % 128 + 128 : Nat) : Int)).toNat % 128 = m % 128 := by omega
          rw [e, show m / 128 * (128 ^ k * 128) = (m / 128 * 128) * 128 ^ k by rw [Nat.mul_assoc, Nat.mul_comm 128 (128 ^ k)], Nat.add_assoc, ← Nat.add_mul]
          rw [show m % 128 + m / 128 * 128 = m by omega]
        · intro h
          rw [show k + ((encG f (m / 128)).length + 1) - 1 = k + 1 + (encG f (m / 128)).length - 1 by omega] at h
          have := i3 h
          omega

/-- cut by one byte no number stands there -/
theorem scan_cut (L : List UInt8) (A : Nat) : ∀ f m k F, m < 128 ^ (f + 1) →
    (∀ j, j + 1 < (encG f m).length → byteAt L (A + k + j) = byteAt (encG f m) j) → A + k + (encG f m).length = L.length + 1 → scanN L A F k = none
  | f, m, k, 0, hm, hb, hl => rfl
  | f, m, k, F + 1, hm, hb, hl => by
    by_cases hs : m < 128
    · rw [encG_small hs] at hl
      simp at hl
      rw [scanN, if_neg (by omega)]
    · cases f with
      | zero => simp at hm; omega
      | succ f =>
        rw [encG_big hs] at hb hl
        simp only [List.length_cons] at hb hl
        have hp := encG_pos f (m / 128)
        have h0 := hb 0 (by omega)
        rw [Nat.add_zero, byteAt_ofNat (by omega)] at h0
        rw [scanN, if_pos (by omega), if_neg (by omega)]
        exact scan_cut L A f (m / 128) (k + 1) F (by rw [Nat.pow_succ] at hm; exact Nat.div_lt_of_lt_mul (by omega))
          (fun j hj => by
            have := hb (j + 1) (by omega)
            rw [byteAt_cons] at this
            rw [← this, show A + (k + 1) + j = A + k + (j + 1) by omega])
          (by omega)

theorem unf_fold (n : Int) : unfN (foldN n) = n := by
  by_cases h : n < 0
  · have := foldN_neg h
    rw [unfN_odd (by omega)]; omega
  · have := foldN_pos h
    rw [unfN_even (by omega)]; omega

/-- a number that was put comes back, whatever stands behind it -/
theorem num_back (bs tl : List UInt8) (n : Int) : numR (bs ++ encN n ++ tl) (bs.length : Int) = (clampN n, ((bs ++ encN n).length : Int), true) := by
  have hm := foldN_le (clampN_in n)
  have hf := encG_fit 5 (foldN (clampN n)) 4 (by omega)
  have hp := encG_pos 5 (foldN (clampN n))
  have hs := scan_enc (bs ++ encN n ++ tl) bs.length 5 (foldN (clampN n)) 0 5 (by omega) hf
    (fun j hj => by
      rw [Nat.add_zero, List.append_assoc, byteAt_append]
      unfold byteAt encN
      simp [List.getD, List.getElem?_append_left hj])
    (by simp [encN])
  simp only [Nat.zero_add, Nat.pow_zero, Nat.mul_one] at hs
  obtain ⟨h1, h2, h3⟩ := hs
  rw [numR_some h1, show (encG 5 (foldN (clampN n))).length - 1 + 1 = (encG 5 (foldN (clampN n))).length by omega, h2]
  have e : accN (bs ++ encN n ++ tl) bs.length 0 = 0 := rfl
  rw [e, Nat.zero_add, unf_fold]
  rw [if_neg]
  · simp [encN]; omega
  · rintro (⟨ha, hb⟩ | hb)
    · have := h3 hb
      rw [this, encG_small (by omega)] at ha
      simp at ha
    · omega
theorem num_cut (bs : List UInt8) (n : Int) : (numR ((bs ++ encN n).take ((bs ++ encN n).length - 1)) (bs.length : Int)).2.2 = false := by
  have hm := foldN_le (clampN_in n)
  have hp := encG_pos 5 (foldN (clampN n))
  have hl : ((bs ++ encN n).take ((bs ++ encN n).length - 1)).length = bs.length + (encG 5 (foldN (clampN n))).length - 1 := by
    simp [encN]
  rw [numR_none (scan_cut _ bs.length 5 (foldN (clampN n)) 0 5 (by omega) (fun j hj => by
    rw [Nat.add_zero]
    have e := byteAt_append bs (encN n) j
    unfold byteAt at e ⊢
    rw [← show encN n = encG 5 (foldN (clampN n)) from rfl, ← e]
    simp only [List.getD]
    rw [List.getElem?_take, if_pos (by simp [encN]; omega)]) (by rw [hl]; omega))]

theorem encT_back (bs : List UInt8) (s : ByteArray) (hs : s.size ≤ 1000000000) :
    textR (bs ++ (encN s.size ++ s.data.toList)) (bs.length : Int) = (s, ((bs ++ (encN s.size ++ s.data.toList)).length : Int), true) := by
  have e : s.data.toList.length = s.size := by rw [Array.length_toList]; rfl
  have hc : clampN (s.size : Int) = s.size := by unfold clampN; rw [if_neg (by omega), if_neg (by omega)]
  have hn := num_back bs s.data.toList s.size
  rw [hc, List.append_assoc] at hn
  rw [textR_yes (bs ++ (encN s.size ++ s.data.toList)) bs.length (bs ++ encN s.size).length s.size (by rw [hn]; simp; omega) (by rw [hn]) (by rw [hn])]
  rw [← List.append_assoc, List.drop_left' rfl, List.take_of_length_le (by omega)]
  simp; omega
end Go.Proofs.YtaflokfgbmlmaadDoor
/-
  Texts as bytes, plainly: what PutText writes behind.
-/
namespace Go.Proofs.YtaflokfgbmlmaadDoor
open Go.RowKit
set_option linter.unusedVariables false

def encT (s : ByteArray) : List UInt8 := encN s.size ++ s.data.toList
theorem encT_length (s : ByteArray) : (encT s).length ≤ 6 + s.size := by
  have := encN_length s.size
  have e : s.data.toList.length = s.size := by rw [Array.length_toList]; rfl
  simp [encT]; omega
theorem strCells_vals (s : ByteArray) : Lib.strCells s = vals s.data.toList := rfl
theorem encT_join (bs : List UInt8) (s : ByteArray) : vals (bs ++ encN s.size) ++ Lib.strCells s = vals (bs ++ encT s) := by
  rw [strCells_vals, ← vals_append]; simp [encT]
theorem encT_len (bs : List UInt8) (s : ByteArray) : bs.length + (encN s.size).length + s.size = (bs ++ encT s).length := by
  have e : s.data.toList.length = s.size := by rw [Array.length_toList]; rfl
  simp only [encT, List.length_append]; omega

end Go.Proofs.YtaflokfgbmlmaadDoor
/-
  Values as bytes, plainly: what PutVal writes behind.
-/
namespace Go.Proofs.YtaflokfgbmlmaadDoor
open Go.RowKit
set_option linter.unusedVariables false

def encV (K N : Int) (S : ByteArray) : List UInt8 := encN K ++ (if K = 1 then encN N else encT S)
theorem encV_num (N : Int) (S : ByteArray) : encV 1 N S = encN 1 ++ encN N := by simp [encV]
theorem encV_text {K : Int} (N : Int) (S : ByteArray) (h : K ≠ 1) : encV K N S = encN K ++ encT S := by simp [encV, h]
theorem encV_length (K N : Int) (S : ByteArray) : (encV K N S).length ≤ 12 + S.size := by
  have h1 := encN_length K
  have h2 := encN_length N
  have h3 := encT_length S
  unfold encV
  split <;> simp <;> omega
theorem encV_pos (K N : Int) (S : ByteArray) : 0 < (encV K N S).length := by
  have h1 := encN_pos K
  unfold encV
  simp; omega
end Go.Proofs.YtaflokfgbmlmaadDoor
/-
  Values in bytes, plainly: what GetVal reads.
-/
namespace Go.Proofs.YtaflokfgbmlmaadDoor
open Go.RowKit
set_option linter.unusedVariables false

theorem numR_false {bs : List UInt8} {x : Int} (h : (numR bs x).2.2 = false) : numR bs x = (0, 0, false) := by
  by_cases h0 : x < 0
  · exact numR_neg h0
  · obtain ⟨A, rfl⟩ := Int.eq_ofNat_of_zero_le (show 0 ≤ x by omega)
    cases hs : scanN bs A 5 0 with
    | none => exact numR_none hs
    | some k =>
      rw [numR_some hs] at h ⊢
      split at h
      · rename_i hc; rw [if_pos hc]
      · simp at h
theorem textR_size (bs : List UInt8) (x : Int) : (textR bs x).1.size ≤ bs.length := by
  unfold textR
  split
  · exact Nat.zero_le _
  · show (((bs.drop _).take _).toArray).size ≤ _
    simp; omega

/-- what GetVal answers -/
def valR (bs : List UInt8) (x : Int) : Int × Int × ByteArray × Int × Bool :=
  if (numR bs x).2.2 = false then (0, 0, ⟨#[]⟩, 0, false)
  else if (numR bs x).1 = 1 then
    if (numR bs (numR bs x).2.1).2.2 && valB 1 (numR bs (numR bs x).2.1).1 ⟨#[]⟩ then (1, (numR bs (numR bs x).2.1).1, ⟨#[]⟩, (numR bs (numR bs x).2.1).2.1, true) else (0, 0, ⟨#[]⟩, 0, false)
  else
    if (textR bs (numR bs x).2.1).2.2 && valB (numR bs x).1 0 (textR bs (numR bs x).2.1).1 then ((numR bs x).1, 0, (textR bs (numR bs x).2.1).1, (textR bs (numR bs x).2.1).2.1, true) else (0, 0, ⟨#[]⟩, 0, false)
def valT (r : Int × Int × ByteArray × Int × Bool) : Value := .tuple #[.agg #[.int .i64 r.1, .int .i64 r.2.1, .string r.2.2.1], .int .i64 r.2.2.2.1, .bool r.2.2.2.2]
theorem valR_no {bs : List UInt8} {x : Int} (h : (numR bs x).2.2 = false) : valR bs x = (0, 0, ⟨#[]⟩, 0, false) := by unfold valR; rw [if_pos h]
theorem valR_num {bs : List UInt8} {x p n q : Int} {b : Bool} (h : numR bs x = (1, p, true)) (h2 : numR bs p = (n, q, b)) :
    valR bs x = if b && valB 1 n ⟨#[]⟩ then (1, n, ⟨#[]⟩, q, true) else (0, 0, ⟨#[]⟩, 0, false) := by
  unfold valR; rw [h, if_neg (by simp), if_pos rfl, h2]
theorem valR_text {bs : List UInt8} {x k p q : Int} {s : ByteArray} {b : Bool} (h : numR bs x = (k, p, true)) (hk : k ≠ 1) (h2 : textR bs p = (s, q, b)) :
    valR bs x = if b && valB k 0 s then (k, 0, s, q, true) else (0, 0, ⟨#[]⟩, 0, false) := by
  unfold valR; rw [h, if_neg (by simp), if_neg hk, h2]
theorem ret_val {bs : List UInt8} {x : Int} {r : Int × Int × ByteArray × Int × Bool} (h : valR bs x = r) : Ending.returned (valT r) = .returned (valT (valR bs x)) := by rw [h]
end Go.Proofs.YtaflokfgbmlmaadDoor
/-
  What ParseVal answers, plainly: a number's one text (numV), or a text between two quotes; and that reading loosely, then writing and comparing, answers the same (number part).
-/
namespace Go.Proofs.YtaflokfgbmlmaadDoor
open Go.Lib
set_option linter.unusedVariables false

theorem valB_whole (n : Int) : valB 1 n ⟨#[]⟩ = numOk n := by
  have : (ByteArray.mk #[]).size = 0 := rfl
  simp [valB, inB, numOk, this]
theorem valB_zero : valB 0 0 ⟨#[]⟩ = false := by simp [valB]

/-- a text's list and the text -/
theorem eq_mk {s : ByteArray} {l : List UInt8} : (⟨l.toArray⟩ : ByteArray) = s ↔ l = s.data.toList := by
  constructor
  · rintro rfl; simp
  · intro h; apply ByteArray.ext; rw [h]

/-- the number that a loose reading answers stands the test just where the text is that number's one text -/
theorem loose_ok {s : ByteArray} {n : Int} (h : atoiAll s.data.toList = .ok n) :
    (valB 1 n ⟨#[]⟩ = true ∧ textV 1 n ⟨#[]⟩ = s) ↔ numV s.data.toList = some n := by
  constructor
  · rintro ⟨hv, ht⟩
    rw [textV_num hv, eq_mk] at ht
    rw [← ht]
    exact numV_itoa (by rw [← valB_whole]; exact hv)
  · intro hn
    obtain ⟨hk, e⟩ := numV_some hn
    have hv : valB 1 n ⟨#[]⟩ = true := by rw [valB_whole]; exact hk
    exact ⟨hv, by rw [textV_num hv, eq_mk]; exact e.symm⟩
theorem loose_only {s : ByteArray} {n m : Int} (h : atoiAll s.data.toList = .ok n) (hm : numV s.data.toList = some m) : m = n := by
  obtain ⟨hk, e⟩ := numV_some hm
  have := atoi_itoa hk
  rw [← e, h] at this
  exact (by injection this with h; exact h.symm)
theorem loose_none {s : ByteArray} (h : ∀ n, atoiAll s.data.toList ≠ .ok n) : numV s.data.toList = none := by
  cases hn : numV s.data.toList with
  | none => rfl
  | some m =>
    obtain ⟨hk, e⟩ := numV_some hn
    exact absurd (by rw [e]; exact atoi_itoa hk) (h m)
end Go.Proofs.YtaflokfgbmlmaadDoor
/-
  What strconv.Atoi answers: the number, or an error.
-/
namespace Go.Proofs.YtaflokfgbmlmaadDoor
open Go.RowKit Go.Lib
set_option linter.unusedVariables false

/-- the library's two errors are there -/
def Errs (w : World) : Prop := (∃ tp p, w.var? Tryd.prog "strconv.ErrSyntax" = some #[.iface tp p]) ∧ (∃ tp p, w.var? Tryd.prog "strconv.ErrRange" = some #[.iface tp p])
end Go.Proofs.YtaflokfgbmlmaadDoor
/-
  What impl.looseVal answers: what stands between a text's first byte and its last, where the first is a quote; else the number that strconv.Atoi reads; else nothing.
-/
namespace Go.Proofs.YtaflokfgbmlmaadDoor
open Go.RowKit Go.Lib
set_option linter.unusedVariables false

end Go.Proofs.YtaflokfgbmlmaadDoor
/-
  What impl.ParseVal answers: what the loose reading answers, where that is a value whose one text is the given one; else nothing.
-/
namespace Go.Proofs.YtaflokfgbmlmaadDoor
open Go.RowKit Go.Lib
set_option linter.unusedVariables false

/-- the answer, as the call gives it -/
def ansV (b : Bool) (K N : Int) (S : ByteArray) : Value := if b then .tuple #[.agg #[.int .i64 K, .int .i64 N, .string S], .bool true] else .tuple #[.agg #[.int .i64 0, .int .i64 0, .string ⟨#[]⟩], .bool false]

end Go.Proofs.YtaflokfgbmlmaadDoor
/-
  What the model's ParseVal answers, by the text's form: between two quotes, behind a minus, else.
-/
namespace Go.Proofs.YtaflokfgbmlmaadDoor
open Go.RowKit Go.Lib
set_option linter.unusedVariables false

theorem below_al2 (w : World) (o : Obj) : Below w.heap.size w (w.alloc o) := (Below.refl _ _).alloc (Nat.le_refl _) _
theorem below_none {w w' : World} (h : w.grownBy w' none) : Below w.heap.size w w' := (Below.refl _ _).grown h (Nat.le_refl _) (fun k hk => by cases hk)

theorem decFrom_lt : ∀ (l : List UInt8) (acc u : Nat), decFrom acc l = some u → u < (acc + 1) * 10 ^ l.length
  | [], acc, u, h => by simp [decFrom] at h; subst h; simp
  | c :: r, acc, u, h => by
    simp only [decFrom] at h
    cases hd : digitVal c with
    | none => rw [hd] at h; simp at h
    | some d =>
      rw [hd] at h
      have h10 := (digitVal_some hd).2
      have ih := decFrom_lt r (acc * 10 + d) u h
      refine Nat.lt_of_lt_of_le ih ?_
      rw [List.length_cons, Nat.pow_succ, Nat.mul_comm (10 ^ r.length) 10, ← Nat.mul_assoc]
      exact Nat.mul_le_mul_right _ (by omega)
theorem wholeL_bd (l : List UInt8) : -1 ≤ wholeL l ∧ wholeL l < 10000000000 := by
  unfold wholeL
  split
  · omega
  · rename_i hc
    have hlen : l.length ≤ 10 := by omega
    cases hd : decFrom 0 l with
    | none => simp only []; omega
    | some u =>
      have := decFrom_lt l 0 u hd
      have h2 : 10 ^ l.length ≤ 10 ^ 10 := Nat.pow_le_pow_right (by omega) hlen
      simp only []
      omega
/-- the answer, of a number or none -/
def ansN : Option Int → Value
  | some n => ansV true 1 n ⟨#[]⟩
  | none => ansV false 1 0 ⟨#[]⟩
theorem numV_minus {l : List UInt8} {m : Int} (h1 : 1 < l.length) (h0 : l.head? = some 45) (hm : wholeL l.tail = m) : numV l = if 0 ≤ -m then none else if numOk (-m) then some (-m) else none := by
  unfold numV; rw [if_pos ⟨h1, h0⟩, hm]
theorem numV_plain {l : List UInt8} {m : Int} (h1 : ¬ (1 < l.length ∧ l.head? = some 45)) (hm : wholeL l = m) : numV l = if m < 0 then none else if numOk m then some m else none := by
  unfold numV; rw [if_neg h1, hm]
theorem ansN_of {n : Int} {o : Option Int} (h : o = if numOk n then some n else none) : ansV (valB 1 n ⟨#[]⟩) 1 n ⟨#[]⟩ = ansN o := by
  rw [valB_whole, h]
  cases numOk n <;> rfl
theorem head_of {s : ByteArray} (h : 0 < s.size) : s.data.toList.head? = some (s[0]'h) := by
  have hl : s.data.toList.length = s.size := by rw [Array.length_toList]; rfl
  rw [List.head?_eq_getElem?, List.getElem?_eq_getElem (by omega)]
  simp [ByteArray.getElem_eq_getElem_data]
theorem tail_of (s : ByteArray) : (s.extract 1 s.size).data.toList = s.data.toList.tail := by
  have hl : s.data.toList.length = s.size := by rw [Array.length_toList]; rfl
  rw [ByteArray.data_extract, Array.toList_extract, List.extract_eq_take_drop, List.take_of_length_le (by simp), List.drop_one]

end Go.Proofs.YtaflokfgbmlmaadDoor
/-
  What ParseVal answers, the tested one and the model's alike: parseO.
-/
namespace Go.Proofs.YtaflokfgbmlmaadDoor
open Go.RowKit Go.Lib
set_option linter.unusedVariables false

def quotedB (s : ByteArray) : Bool := decide (2 ≤ s.size) && (bat s 0 == 39) && (bat s (s.size - 1) == 39)
/-- the value that a text is read as -/
def parseO (s : ByteArray) : Option V3 :=
  if quotedB s then (if valB 2 0 (s.extract 1 (s.size - 1)) then some ⟨2, 0, s.extract 1 (s.size - 1)⟩ else none)
  else (numV s.data.toList).map fun n => ⟨1, n, ⟨#[]⟩⟩
/-- the answer, as the call gives it -/
def ansO : Option V3 → Value
  | some v => .tuple #[.agg #[.int .i64 v.K, .int .i64 v.N, .string v.S], .bool true]
  | none => .tuple #[.agg #[.int .i64 0, .int .i64 0, .string ⟨#[]⟩], .bool false]
theorem ansV_f (K N : Int) (S : ByteArray) : ansV false K N S = ansO none := rfl
theorem ansV_t (K N : Int) (S : ByteArray) : ansV true K N S = ansO (some ⟨K, N, S⟩) := rfl
theorem parseO_q {s : ByteArray} (h : quotedB s = true) : ansO (parseO s) = ansV (valB 2 0 (s.extract 1 (s.size - 1))) 2 0 (s.extract 1 (s.size - 1)) := by
  unfold parseO; rw [if_pos h]
  cases valB 2 0 (s.extract 1 (s.size - 1)) <;> rfl
theorem parseO_n {s : ByteArray} (h : quotedB s = false) : ansO (parseO s) = ansN (numV s.data.toList) := by
  unfold parseO; rw [if_neg (by simp [h])]
  cases numV s.data.toList <;> rfl
theorem quotedB_iff {s : ByteArray} : quotedB s = true ↔ 2 ≤ s.size ∧ bat s 0 = 39 ∧ bat s (s.size - 1) = 39 := by
  simp [quotedB, and_assoc]

theorem inner_of {s : ByteArray} (h1 : 2 ≤ s.size) (h0 : bat s 0 = 39) (h2 : bat s (s.size - 1) = 39) : (⟨#[39]⟩ ++ s.extract 1 (s.size - 1) ++ ⟨#[39]⟩ : ByteArray) = s := by
  have e : (s.extract 1 (s.size - 1)).size = s.size - 2 := by rw [ByteArray.size_extract]; omega
  have e1 : (⟨#[39]⟩ : ByteArray).size = 1 := rfl
  apply ByteArray.ext_getElem
  · simp only [ByteArray.size_append, e, e1]; omega
  · intro i hi hi'
    rw [bat_in (by omega)] at h0 h2
    have x0 : (s[0]'(by omega)) = 39 := UInt8.toNat_inj.1 (by have : (39 : UInt8).toNat = 39 := rfl; omega)
    have x2 : (s[s.size - 1]'(by omega)) = 39 := UInt8.toNat_inj.1 (by have : (39 : UInt8).toNat = 39 := rfl; omega)
    by_cases ha : i = 0
    · subst ha
      rw [ByteArray.getElem_append_left (by simp only [ByteArray.size_append, e, e1]; omega), ByteArray.getElem_append_left (by rw [e1]; omega), x0]; rfl
    · by_cases hb : i = s.size - 1
      · subst hb
        rw [ByteArray.getElem_append_right (by simp only [ByteArray.size_append, e, e1]; omega), x2]
        have : s.size - 1 - (⟨#[39]⟩ ++ s.extract 1 (s.size - 1) : ByteArray).size = 0 := by simp only [ByteArray.size_append, e, e1]; omega
        simp only [this]; rfl
      · rw [ByteArray.getElem_append_left (by simp only [ByteArray.size_append, e, e1]; omega), ByteArray.getElem_append_right (by rw [e1]; omega), ByteArray.getElem_extract]
        congr 1
        rw [e1]; omega
theorem inner_last {s S : ByteArray} (h : (⟨#[39]⟩ ++ S ++ ⟨#[39]⟩ : ByteArray) = s) : bat s (s.size - 1) = 39 := by
  subst h
  have e1 : (⟨#[39]⟩ : ByteArray).size = 1 := rfl
  rw [bat_in (by simp only [ByteArray.size_append, e1]; omega)]
  rw [ByteArray.getElem_append_right (by simp only [ByteArray.size_append, e1]; omega)]
  have : (⟨#[39]⟩ ++ S ++ ⟨#[39]⟩ : ByteArray).size - 1 - (⟨#[39]⟩ ++ S : ByteArray).size = 0 := by simp only [ByteArray.size_append, e1]; omega
  simp only [this]; rfl

end Go.Proofs.YtaflokfgbmlmaadDoor
