/-
  The contracts of the laws' own comparison of items and stores: what is plainly the same is found the same.
-/
import Derived.Test.YtjiopefdfkjfkaaDoorLawStore
import Derived.Test.YtjiopefdfkjfkaaDoorKeepF
import Derived.Deep.RegionHeld3
namespace Go.Proofs.YtjiopefdfkjfkaaDoor
open Go.RowKit
set_option linter.unusedVariables false

set_option maxRecDepth 100000 in
set_option maxHeartbeats 1600000 in
theorem eqItem_same (id : Int) (kd : ByteArray) (a b : Option Addr) (ca cb : Nat) (L : List V3) (w : World) (hr : RdV w a L) (hq : RdV w b L) (hn : L.length ≤ 1048580) :
    Calls Tryd.prog 117 #[.agg #[.int .i64 id, .string kd, .slice a L.length ca], .agg #[.int .i64 id, .string kd, .slice b L.length cb]] w fun e w' =>
      e = .returned (.bool true) ∧ Below w.heap.size w w' := by
  have k1 : (id != id) = false := by simp
  have b0 := below_al w (.cells #[.int .i64 id, .string kd, .slice a L.length ca] 51)
  have b1 := b0.alloc b0.size (.cells #[.int .i64 id, .string kd, .slice b L.length cb] 51)
  go_enter Tryd.func117, Tryd.ntmps117
  go_wp2_with fail
  refine (eqFact_same kd a b ca cb L _ (hr.below b1) (hq.below b1) hn).mono ?_
  rintro e w1 ⟨rfl, hb⟩
  have hB : Below w.heap.size w w1 := b1.trans (hb.mono b1.size)
  go_wp2
  go_ret
  exact ⟨rfl, hB⟩
theorem eqItem_of (id id' : Int) (kd kd' : ByteArray) (a b : Option Addr) (ca cb : Nat) (L M : List V3) (w : World) (hr : RdV w a L) (hq : RdV w b M) (hn : L.length ≤ 1048580) (h1 : id = id') (h2 : kd = kd') (h3 : L = M) :
    Calls Tryd.prog 117 #[.agg #[.int .i64 id, .string kd, .slice a L.length ca], .agg #[.int .i64 id', .string kd', .slice b M.length cb]] w fun e w' =>
      e = .returned (.bool true) ∧ Below w.heap.size w w' := by subst h1 h2 h3; exact eqItem_same id kd a b ca cb L w hr hq hn
/-- two items in memory, their lists, and all that was there at the head -/
theorem keepI {w0 W w' : World} {B : Nat} {p0 p1 p2 p3 p4 p5 : Addr} {v0 v1 v2 v3 v4 v5 : Value} {a b : Option Addr} {L M : List V3} (hb : Below W.heap.size W w')
    (h : W.cell? p0 = some v0 ∧ W.cell? p1 = some v1 ∧ W.cell? p2 = some v2 ∧ W.cell? p3 = some v3 ∧ W.cell? p4 = some v4 ∧ W.cell? p5 = some v5 ∧ Two w0 B a b L M W) :
    w'.cell? p0 = some v0 ∧ w'.cell? p1 = some v1 ∧ w'.cell? p2 = some v2 ∧ w'.cell? p3 = some v3 ∧ w'.cell? p4 = some v4 ∧ w'.cell? p5 = some v5 ∧ Two w0 B a b L M w' := by
  obtain ⟨h0, h1, h2, h3, h4, h5, h6⟩ := h
  have k : ∀ {a : Addr} {v : Value}, W.cell? a = some v → w'.cell? a = some v := fun {a v} h => by rw [hb.cell (World.block_lt_of_cell? W _ h)]; exact h
  exact ⟨k h0, k h1, k h2, k h3, k h4, k h5, h6.keep hb⟩

set_option maxRecDepth 100000 in
set_option maxHeartbeats 3200000 in
theorem eqItemS_same (a b : Option Addr) (ca cb n : Nat) (J K : List It) (w : World) (hr : RdI w a J) (hq : RdI w b K) (hJ : J.length = n) (hpl : J.map It.pl = K.map It.pl) (hm : n ≤ 1048580) (hl : ∀ i, i < J.length → (iAt J i).L.length ≤ 1048580) :
    Calls Tryd.prog 84 #[.slice a n ca, .slice b n cb] w fun e w' =>
      e = .returned (.bool true) ∧ Below w.heap.size w w' := by
  have HJ := hide hJ
  have HK : Hid (K.length = n) := by unfold Hid; rw [← hJ, pl_len hpl]
  have HP := hide hpl
  have HL := hide hl
  clear hJ hpl hl
  have hnn : ((n : Int) != (n : Int)) = false := by simp
  go_enter Tryd.func84, Tryd.ntmps84
  go_wp2
  go_loopw [5] (fun i wr => ∃ (k : Nat), k ≤ n ∧ i = .int .i64 k ∧ Below w.heap.size w wr) (fun i _ => n - (intOf i).toNat)
  case atStart => exact ⟨0, Nat.zero_le _, rfl, Below.refl _ _⟩
  case round =>
    obtain ⟨k, hk, rfl, hbel⟩ := hrel
    by_cases hlt : k < n
    · obtain ⟨b1, o1, e1, hbw1, hc1⟩ := hr.open (by rw [HJ.out]; omega)
      obtain ⟨b2, o2, e2, hbw2, hc2⟩ := hq.open (by rw [HK.out]; omega)
      obtain ⟨c0, c1, c2, hv1⟩ := hc1 k (by rw [HJ.out]; exact hlt)
      obtain ⟨d0, d1, d2, hv2⟩ := hc2 k (by rw [HK.out]; exact hlt)
      have HP1 := pl_at HP.out (i := k) (by rw [HJ.out]; exact hlt)
      have HLk := hide (HL.out k (by rw [HJ.out]; exact hlt))
      replace hv1 := hv1.below hbel
      replace hv2 := hv2.below hbel
      clear hc1 hc2
      subst e1 e2
      rw [← hbel.cell (p := ⟨b1, o1 + k * 3, none⟩) hbw1] at c0
      rw [← hbel.cell (p := ⟨b1, o1 + k * 3 + 1, none⟩) hbw1] at c1
      rw [← hbel.cell (p := ⟨b1, o1 + k * 3 + 2, none⟩) hbw1] at c2
      rw [← hbel.cell (p := ⟨b2, o2 + k * 3, none⟩) hbw2] at d0
      rw [← hbel.cell (p := ⟨b2, o2 + k * 3 + 1, none⟩) hbw2] at d1
      rw [← hbel.cell (p := ⟨b2, o2 + k * 3 + 2, none⟩) hbw2] at d2
      generalize iAt J k = x at c0 c1 c2 hv1 HP1 HLk
      generalize iAt K k = y at d0 d1 d2 hv2 HP1
      obtain ⟨id, kd, va, vc, L⟩ := x
      obtain ⟨id', kd', vb, wc, M⟩ := y
      simp only at c0 c1 c2 hv1 d0 d1 d2 hv2 HP1 HLk
      obtain ⟨rfl, rfl, rfl⟩ := HP1
      have T0 : Two w w.heap.size va vb L L wr := ⟨hv1, hv2, hbel, hbel.size⟩
      clear hv1 hv2 hbel
      go_wp2_with fail
      go_region_held3 (fun W => W.cell? ⟨b1, o1 + k * 3, none⟩ = some (.int .i64 id) ∧ W.cell? ⟨b1, o1 + k * 3 + 1, none⟩ = some (.string kd) ∧ W.cell? ⟨b1, o1 + k * 3 + 2, none⟩ = some (.slice va L.length vc) ∧ W.cell? ⟨b2, o2 + k * 3, none⟩ = some (.int .i64 id) ∧ W.cell? ⟨b2, o2 + k * 3 + 1, none⟩ = some (.string kd) ∧ W.cell? ⟨b2, o2 + k * 3 + 2, none⟩ = some (.slice vb L.length wc) ∧ Two w w.heap.size va vb L L W) (first | exact ⟨c0, c1, c2, d0, d1, d2, T0.drew⟩ | exact keepI (by assumption) (by assumption))
        (first | (go_at_call 117; refine (eqItem_same _ _ _ _ _ _ _ _ T0.drew.1 T0.drew.2.1 HLk.out).mono ?_; rintro e w2 ⟨rfl, hb⟩))
      all_goals
        obtain ⟨-, -, -, -, -, -, T2⟩ : w2.cell? ⟨b1, o1 + k * 3, none⟩ = some (.int .i64 id) ∧ w2.cell? ⟨b1, o1 + k * 3 + 1, none⟩ = some (.string kd) ∧ w2.cell? ⟨b1, o1 + k * 3 + 2, none⟩ = some (.slice va L.length vc) ∧ w2.cell? ⟨b2, o2 + k * 3, none⟩ = some (.int .i64 id) ∧ w2.cell? ⟨b2, o2 + k * 3 + 1, none⟩ = some (.string kd) ∧ w2.cell? ⟨b2, o2 + k * 3 + 2, none⟩ = some (.slice vb L.length wc) ∧ Two w w.heap.size va vb L L w2 := by assumption
        have hB2 := T2.2.2.1
        go_wp2
        go_roundw
        case rel => exact ⟨k + 1, by omega, by go_num, hB2⟩
        case measure => simp [intOf]; omega
    · go_wp2
      go_ret
      exact ⟨rfl, hbel⟩

set_option maxRecDepth 100000 in
set_option maxHeartbeats 1600000 in
theorem eqStore_same (a b : Option Addr) (ca cb n : Nat) (nx : Int) (J K : List It) (w : World) (hr : RdI w a J) (hq : RdI w b K) (hJ : J.length = n) (hpl : J.map It.pl = K.map It.pl) (hm : n ≤ 1048580) (hl : ∀ i, i < J.length → (iAt J i).L.length ≤ 1048580) :
    Calls Tryd.prog 38 #[.agg #[.slice a n ca, .int .i64 nx], .agg #[.slice b n cb, .int .i64 nx]] w fun e w' =>
      e = .returned (.bool true) ∧ Below w.heap.size w w' := by
  have k1 : (nx != nx) = false := by simp
  have b0 := below_al w (.cells #[.slice a n ca, .int .i64 nx] 39)
  have b1 := b0.alloc b0.size (.cells #[.slice b n cb, .int .i64 nx] 39)
  have hA := box_old (box2_new w (.slice a n ca) (.int .i64 nx) 39) (by simp) (.cells #[.slice b n cb, .int .i64 nx] 39)
  have hC := box2_new (w.alloc (.cells #[.slice a n ca, .int .i64 nx] 39)) (.slice b n cb) (.int .i64 nx) 39
  simp only [World.size_alloc] at hA hC
  go_enter Tryd.func38, Tryd.ntmps38
  go_wp2_with fail
  refine (eqItemS_same a b ca cb n J K _ (hr.below b1) (hq.below b1) hJ hpl hm hl).mono ?_
  rintro e w1 ⟨rfl, hb⟩
  have hB : Below w.heap.size w w1 := b1.trans (hb.mono b1.size)
  obtain ⟨a0, a1, -, -⟩ := box2_cell (box_below hA hb (by simp; omega))
  obtain ⟨d0, d1, -, -⟩ := box2_cell (box_below hC hb (by simp))
  clear hA hC hb b0 b1 hr hq hpl hl
  go_wp2
  go_ret
  exact ⟨rfl, hB⟩
end Go.Proofs.YtjiopefdfkjfkaaDoor
