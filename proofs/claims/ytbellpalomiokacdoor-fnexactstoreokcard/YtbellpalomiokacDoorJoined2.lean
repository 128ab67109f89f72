/-
  Texts of this claim joined into one: FactSame, IdOfS, ToStore, KeepS, StoreS, L2Num, TabT, ValT, TxV, FactT, FactTS, Bytes, Bits.
-/
import Derived.Test.YtbellpalomiokacDoorJoined1
import Derived.Laws.StructEq
import Derived.ChangeKeysEq
import Derived.Deep.RegionHeld3
import Derived.Deep.RegionLaw
import Derived.Deep.RegionWith
import Derived.Test.YtbellpalomiokacDoorJValP
import Derived.Lib.ItoaLen
import Derived.Laws.IdiomStrings
import Derived.Test.YtbellpalomiokacDoorJPlain
import Derived.Lib.AppendIntMem
import Derived.Lib.SmallJoins
import Derived.Test.YtbellpalomiokacDoorShelf
import Derived.Lib.Join
import Derived.Deep.AppendLies
import Derived.OpenShut
import Derived.BigQuiet
import Derived.Deep.QuietTactic
import Derived.Laws.BitsAllLaws
/-
  What the sameness of facts answers, the model's and the tested one alike: sameF.
-/
namespace Go.Proofs.YtbellpalomiokacDoor
open Go.RowKit
set_option linter.unusedVariables false

theorem below_dn {w u : World} {n : Nat} (k : Below (w.drewN n).heap.size (w.drewN n) u) : Below w.heap.size w u :=
  (show Below w.heap.size w (w.drewN n) from ⟨rfl, rfl, rfl, Nat.le_refl _, fun _ _ => rfl⟩).trans k

set_option maxRecDepth 100000 in
set_option maxHeartbeats 1600000 in
theorem sameVals_any (a b : Option Addr) (ca cb : Nat) (L M : List V3) (w : World) (hr : RdV w a L) (hq : RdV w b M) (hn : L.length ≤ 1048580) (hm : M.length ≤ 1048580) :
    Calls Tryd.prog 143 #[.slice a L.length ca, .slice b M.length cb] w fun e w' =>
      e = .returned (.bool (decide (L = M))) ∧ Below w.heap.size w w' := by
  by_cases hlm : L.length = M.length
  · obtain ⟨n, hN⟩ : ∃ n, n = L.length := ⟨_, rfl⟩
    rw [← hlm, ← hN]
    rw [← hN] at hn
    have HN := hide hN
    have HM := hide (hN.trans hlm)
    clear hN hlm hm
    have h2 : ((n : Int) != (n : Int)) = false := by simp
    go_enter Tryd.func143, Tryd.ntmps143
    go_wp2
    go_loopw [5] (fun i wr => ∃ (k nd : Nat), k ≤ n ∧ i = .int .i64 k ∧ wr = w.drewN nd ∧ (∀ j, j < k → vAt L j = vAt M j)) (fun i _ => n - (intOf i).toNat)
    case atStart => exact ⟨0, 0, Nat.zero_le _, rfl, rfl, fun j hj => absurd hj (Nat.not_lt_zero _)⟩
    case round =>
      obtain ⟨k, nd, hk, rfl, rfl, hall⟩ := hrel
      have HA := hide hall
      clear hall
      by_cases hlt : k < n
      · obtain ⟨b1, o1, e1, -, hc1⟩ := hr.open (by rw [← HN.out]; omega)
        obtain ⟨b2, o2, e2, -, hc2⟩ := hq.open (by rw [← HM.out]; omega)
        obtain ⟨c0, c1, c2⟩ := hc1 k (by rw [← HN.out]; exact hlt)
        obtain ⟨d0, d1, d2⟩ := hc2 k (by rw [← HM.out]; exact hlt)
        have l1 : (k : Int) < (n : Int) := by omega
        clear hc1 hc2
        subst e1 e2
        rcases v3_cases (vAt L k) (vAt M k) with hv | ⟨hne, hv⟩
        · have HV := hide hv
          rw [← hv] at d0 d1 d2
          clear hv
          have k1 : ((vAt L k).K == (vAt L k).K) = true := by simp
          have k2 : ((vAt L k).N == (vAt L k).N) = true := by simp
          have k3 : ((vAt L k).S.toList == (vAt L k).S.toList) = true := by simp
          go_wp2
          go_quiet (fail)
          go_wp2
          go_roundw
          case rel => exact ⟨k + 1, _, by omega, by go_num, rfl, fun j hj => by
            by_cases hjk : j = k
            · rw [hjk]; exact HV.out
            · exact HA.out j (by omega)⟩
          case measure => simp [intOf]; omega
        · have HE : Hid (decide (L = M) = false) := decide_eq_false (ne_of_at hne)
          clear hne
          rcases hv with k1 | ⟨k1, k2⟩ | ⟨k1, k2, k3⟩
          all_goals
            go_wp2
            go_quiet (fail)
            go_wp2
            go_ret
            exact ⟨ret_bool HE.out.symm, below_dn (below_dn (Below.refl _ _))⟩
      · have HE : Hid (decide (L = M) = true) := decide_eq_true (eq_of_at (HN.out.symm.trans HM.out) (fun j hj => HA.out j (by rw [← HN.out] at hj; omega)))
        go_wp2
        go_ret
        exact ⟨ret_bool HE.out.symm, below_dn (Below.refl _ _)⟩
  · have HE : Hid (decide (L = M) = false) := decide_eq_false (fun e => hlm (by rw [e]))
    have h2 : ((L.length : Int) != (M.length : Int)) = true := by simp; omega
    go_enter Tryd.func143, Tryd.ntmps143
    go_wp2
    go_ret
    exact ⟨ret_bool HE.out.symm, Below.refl _ _⟩

set_option maxRecDepth 100000 in
set_option maxHeartbeats 1600000 in
theorem specSameFact_any (kd kd' : ByteArray) (a b : Option Addr) (ca cb : Nat) (L M : List V3) (w : World) (hr : RdV w a L) (hq : RdV w b M) (hn : L.length ≤ 1048580) (hm : M.length ≤ 1048580) :
    Calls Tryd.prog 123 #[.agg #[.string kd, .slice a L.length ca], .agg #[.string kd', .slice b M.length cb]] w fun e w' =>
      e = .returned (.bool (sameF kd L kd' M)) ∧ Below w.heap.size w w' := by
  have b0 := below_al w (.cells #[.string kd, .slice a L.length ca] 29)
  have b1 := b0.alloc b0.size (.cells #[.string kd', .slice b M.length cb] 29)
  cases h1 : (kd.toList == kd'.toList)
  · have HE : Hid (sameF kd L kd' M = false) := by
      unfold Hid sameF
      rw [decide_eq_false (fun e => by rw [e] at h1; simp at h1)]; rfl
    go_enter Tryd.func123, Tryd.ntmps123
    go_wp2
    go_ret
    exact ⟨ret_bool HE.out.symm, b1⟩
  · have HE : Hid (sameF kd L kd' M = decide (L = M)) := by
      unfold Hid sameF
      rw [decide_eq_true (toList_inj (by simpa using h1))]; rfl
    go_enter Tryd.func123, Tryd.ntmps123
    go_wp2_with fail
    refine (sameVals_any a b ca cb L M _ (hr.below b1) (hq.below b1) hn hm).mono ?_
    rintro e w2 ⟨rfl, hb2⟩
    have hB2 : Below w.heap.size w w2 := b1.trans (hb2.mono b1.size)
    generalize decide (L = M) = r at HE ⊢
    go_wp2
    go_ret
    exact ⟨ret_bool HE.out.symm, hB2⟩

/-- what lies beyond five -/
theorem RdV.drop {w : World} {b off : Nat} {L : List V3} (h : RdV w (some ⟨b, off, none⟩) L) (k : Nat) : RdV w (some ⟨b, off + k * 3, none⟩) (L.drop k) := by
  intro i hi
  have hi2 : k + i < L.length := by simp at hi; omega
  obtain ⟨b', off', e, h0, h1, h2⟩ := h (k + i) hi2
  simp only [Option.some.injEq, Addr.mk.injEq, and_true] at e
  obtain ⟨rfl, rfl⟩ := e
  have ev : vAt (L.drop k) i = vAt L (k + i) := by rw [vAt_in hi, vAt_in hi2]; simp
  rw [ev]
  exact ⟨b, off + k * 3, rfl, by rw [← h0]; congr 2; omega, by rw [← h1]; congr 2; omega, by rw [← h2]; congr 2; omega⟩

/-- a list of values in memory, or none -/
def LiesV (a : Option Addr) (n cap : Nat) : Prop := (a = none ∧ n = 0 ∧ cap = 0) ∨ ∃ b off, a = some ⟨b, off, none⟩ ∧ n ≤ cap ∧ cap ≤ maxLen

/-- a row of these values is answered -/
def GivesV (e : Ending) (w : World) (D : List V3) : Prop := ∃ a' cap', e = .returned (.slice a' D.length cap') ∧ RdV w a' D
theorem gives_nil {w : World} {a : Option Addr} {cap : Nat} {D : List V3} (h : D = []) : GivesV (.returned (.slice a 0 cap)) w D := by subst h; exact ⟨_, _, rfl, RdV.nil _ _⟩
theorem gives_row {w : World} {a : Option Addr} {n cap : Nat} {D : List V3} (h : D.length = n) (hr : RdV w a D) : GivesV (.returned (.slice a n cap)) w D := by subst h; exact ⟨_, _, rfl, hr⟩

theorem pad5_inj {L M : List V3} (hl : L.length = M.length) : (pad5 L = pad5 M ∧ L.drop 5 = M.drop 5) ↔ L = M := by
  constructor
  · rintro ⟨h1, h2⟩
    unfold pad5 at h1
    rw [hl] at h1
    have := List.append_cancel_right h1
    rw [← List.take_append_drop 5 L, ← List.take_append_drop 5 M, this, h2]
  · rintro rfl; exact ⟨rfl, rfl⟩
end Go.Proofs.YtbellpalomiokacDoor
/-
  What the model's IdOf answers: the Id of the first item with this fact, 0 where there is none.
-/
namespace Go.Proofs.YtbellpalomiokacDoor
open Go.RowKit
set_option linter.unusedVariables false

set_option maxRecDepth 100000 in
set_option maxHeartbeats 3200000 in
theorem specIdOf_any (a b : Option Addr) (n cap cb : Nat) (nx : Int) (kd : ByteArray) (J : List It) (M : List V3) (w : World) (hr : RdI w a J) (hq : RdV w b M) (hJ : J.length = n) (hn : n ≤ 1048580) (hl : ∀ i, i < J.length → (iAt J i).L.length ≤ 1048580) (hm : M.length ≤ 1048580) :
    Calls Tryd.prog 72 #[.agg #[.slice a n cap, .int .i64 nx], .agg #[.string kd, .slice b M.length cb]] w fun e w' =>
      e = .returned (.int .i64 (idP (J.map It.pl) kd M)) ∧ Below w.heap.size w w' := by
  have HJ := hide hJ
  have HL := hide hl
  clear hJ hl
  have b0 := below_al w (.cells #[.slice a n cap, .int .i64 nx] 64)
  have b1 := b0.alloc b0.size (.cells #[.string kd, .slice b M.length cb] 29)
  have hA := box_old (box2_new w (.slice a n cap) (.int .i64 nx) 64) (by simp) (.cells #[.string kd, .slice b M.length cb] 29)
  have hC := box2_new (w.alloc (.cells #[.slice a n cap, .int .i64 nx] 64)) (.string kd) (.slice b M.length cb) 29
  simp only [World.size_alloc] at hA hC
  obtain ⟨x0, -, -, -⟩ := box2_cell hA
  obtain ⟨y0, y1, -, -⟩ := box2_cell hC
  replace hr := hr.below b1
  replace hq := hq.below b1
  have hz1 := (Array.getElem?_eq_some_iff.1 hA).1
  have hz2 := (Array.getElem?_eq_some_iff.1 hC).1
  go_enter Tryd.func72, Tryd.ntmps72
  go_wp2
  generalize (w.alloc (.cells #[.slice a n cap, .int .i64 nx] 64)).alloc (.cells #[.string kd, .slice b M.length cb] 29) = w1 at b1 hr hq x0 y0 y1 hz1 hz2 ⊢
  clear b0 hA hC
  go_loopw [5] (fun i wr => ∃ (k : Nat), k ≤ n ∧ i = .int .i64 k ∧ (∀ j, j < k → (iAt J j).same kd M = false) ∧ Below w1.heap.size w1 wr) (fun i _ => n - (intOf i).toNat)
  case atStart => exact ⟨0, Nat.zero_le _, rfl, fun j hj => absurd hj (Nat.not_lt_zero _), Below.refl _ _⟩
  case round =>
    obtain ⟨k, hk, rfl, hno, hbel⟩ := hrel
    have HNo := hide hno
    clear hno
    have hB : Below w.heap.size w wr := b1.trans (hbel.mono b1.size)
    rw [← hbel.cell (p := ⟨w.heap.size, 0, none⟩) hz1] at x0
    rw [← hbel.cell (p := ⟨w.heap.size + 1, 0, none⟩) hz2] at y0
    rw [← hbel.cell (p := ⟨w.heap.size + 1, 1, none⟩) hz2] at y1
    by_cases hlt : k < n
    · obtain ⟨b2, o2, e2, hbw2, hc2⟩ := hr.open (by rw [HJ.out]; omega)
      obtain ⟨c0, c1, c2, hv⟩ := hc2 k (by rw [HJ.out]; exact hlt)
      have HLk := hide (HL.out k (by rw [HJ.out]; exact hlt))
      replace hv := hv.below hbel
      have hq2 := hq.below hbel
      clear hc2
      subst e2
      rw [← hbel.cell (p := ⟨b2, o2 + k * 3, none⟩) hbw2] at c0
      rw [← hbel.cell (p := ⟨b2, o2 + k * 3 + 1, none⟩) hbw2] at c1
      rw [← hbel.cell (p := ⟨b2, o2 + k * 3 + 2, none⟩) hbw2] at c2
      obtain ⟨x, hx⟩ : ∃ x, x = iAt J k := ⟨_, rfl⟩
      rw [← hx] at c0 c1 c2 hv HLk
      have HX := hide hx
      clear hx
      obtain ⟨id, kd', va, vc, L⟩ := x
      simp only at c0 c1 c2 hv HLk
      have T0 : Two w w.heap.size va b L M wr := ⟨hv, hq2, hB, hB.size⟩
      clear hv hq2
      have HSm : Hid ((iAt J k).same kd M = sameF kd' L kd M) := by unfold Hid; rw [← HX.out]; rfl
      have HId : Hid ((iAt J k).id = id) := by unfold Hid; rw [← HX.out]
      cases hs : sameF kd' L kd M
      · have HS := hide hs
        clear hs
        go_wp2_with fail
        go_region_held3 (fun W => W.cell? ⟨w.heap.size, 0, none⟩ = some (.slice (some ⟨b2, o2, none⟩) n cap) ∧ W.cell? ⟨w.heap.size + 1, 0, none⟩ = some (.string kd) ∧ W.cell? ⟨w.heap.size + 1, 1, none⟩ = some (.slice b M.length cb) ∧ W.cell? ⟨b2, o2 + k * 3, none⟩ = some (.int .i64 id) ∧ W.cell? ⟨b2, o2 + k * 3 + 1, none⟩ = some (.string kd') ∧ W.cell? ⟨b2, o2 + k * 3 + 2, none⟩ = some (.slice va L.length vc) ∧ Two w w.heap.size va b L M W) (first | exact ⟨x0, y0, y1, c0, c1, c2, T0.drew⟩ | exact keepI (by assumption) (by assumption))
          (first | (go_at_call 123; refine (specSameFact_any _ _ _ _ _ _ _ _ _ T0.drew.1 T0.drew.2.1 HLk.out hm).mono ?_; rw [HS.out]; rintro e w2 ⟨rfl, hb⟩))
        all_goals
          have hb2 : Below w1.heap.size w1 w2 := hbel.trans ((below_dr hb).mono hbel.size)
          go_wp2
          go_roundw
          case rel => exact ⟨k + 1, by omega, by go_num, fun j hj => by
            by_cases hjk : j = k
            · rw [hjk, HSm.out]; exact HS.out
            · exact HNo.out j (by omega), hb2⟩
          case measure => simp [intOf]; omega
      · have HS := hide hs
        clear hs
        go_wp2_with fail
        go_region_held3 (fun W => W.cell? ⟨w.heap.size, 0, none⟩ = some (.slice (some ⟨b2, o2, none⟩) n cap) ∧ W.cell? ⟨w.heap.size + 1, 0, none⟩ = some (.string kd) ∧ W.cell? ⟨w.heap.size + 1, 1, none⟩ = some (.slice b M.length cb) ∧ W.cell? ⟨b2, o2 + k * 3, none⟩ = some (.int .i64 id) ∧ W.cell? ⟨b2, o2 + k * 3 + 1, none⟩ = some (.string kd') ∧ W.cell? ⟨b2, o2 + k * 3 + 2, none⟩ = some (.slice va L.length vc) ∧ Two w w.heap.size va b L M W) (first | exact ⟨x0, y0, y1, c0, c1, c2, T0.drew⟩ | exact keepI (by assumption) (by assumption))
          (first | (go_at_call 123; refine (specSameFact_any _ _ _ _ _ _ _ _ _ T0.drew.1 T0.drew.2.1 HLk.out hm).mono ?_; rw [HS.out]; rintro e w2 ⟨rfl, hb⟩))
        all_goals
          have hB2 : Below w.heap.size w w2 := hB.trans ((below_dr hb).mono hB.size)
          obtain ⟨z0, z1, z2, z3, z4, z5, -⟩ := keepI (below_dr hb) ⟨x0, y0, y1, c0, c1, c2, T0⟩
          have HI : Hid (idP (J.map It.pl) kd M = id) := by
            unfold Hid
            rw [idP_hit (k := k) (by rw [HJ.out]; exact hlt) HNo.out (by rw [HSm.out]; exact HS.out), HId.out]
          go_wp2
          go_ret
          exact ⟨ret_int HI.out.symm, hB2⟩
    · have HI : Hid (idP (J.map It.pl) kd M = 0) := idP_none (fun j hj => HNo.out j (by rw [HJ.out] at hj; omega))
      go_wp2
      go_ret
      exact ⟨ret_int HI.out.symm, hB⟩
end Go.Proofs.YtbellpalomiokacDoor
/-
  The contracts of the laws' own copies of items and stores: what is copied lies in blocks of its own, no two lists in one.
-/
namespace Go.Proofs.YtbellpalomiokacDoor
open Go.RowKit
set_option linter.unusedVariables false

theorem box_set12 {w : World} {q : Nat} {c0 c1 c2 : Value} {T : TypeId} (h : w.heap[q]? = some (.cells #[c0, c1, c2] T (0, 0))) (b c : Value) :
    ((w.setCell ⟨q, 1, none⟩ b).setCell ⟨q, 2, none⟩ c).heap[q]? = some (.cells #[c0, b, c] T (0, 0)) ∧ w.grownBy ((w.setCell ⟨q, 1, none⟩ b).setCell ⟨q, 2, none⟩ c) (some q) := by
  have h2 : (w.setCell ⟨q, 1, none⟩ b).heap[q]? = some (.cells #[c0, b, c2] T (0, 0)) := by rw [heap_setCell_same w q 1 _ T b h]; rfl
  refine ⟨by rw [heap_setCell_same _ q 2 _ T c h2]; rfl, ⟨rfl, rfl, rfl, by simp [World.setCell], fun k _ hk => ?_⟩⟩
  rw [heap_setCell_other _ ⟨q, 2, none⟩ k c (fun e => hk (by simp [e])), heap_setCell_other w ⟨q, 1, none⟩ k b (fun e => hk (by simp [e]))]

set_option maxRecDepth 100000 in
set_option maxHeartbeats 1600000 in
theorem toItem_any (id : Int) (kd : ByteArray) (a : Option Addr) (cap : Nat) (L : List V3) (w : World) (hr : RdV w a L) (hn : L.length ≤ 1048576) :
    Calls Tryd.prog 124 #[.agg #[.int .i64 id, .string kd, .slice a L.length cap]] w fun e w' =>
      ∃ g, e = .returned (.agg #[.int .i64 id, .string kd, .slice (some ⟨g, 0, none⟩) L.length L.length]) ∧ w.heap.size ≤ g ∧ OwnV w' g L.length L ∧ Below w.heap.size w w' := by
  go_enter Tryd.func124, Tryd.ntmps124
  go_wp2_with fail
  have b0 := below_al w (.cells #[.int .i64 id, .string kd, .slice a L.length cap] 156)
  have b1 := b0.alloc b0.size (.cells #[.int .i64 0, .string ⟨#[]⟩, .slice none 0 0] 101)
  have b2 := b1.alloc b1.size (.cells #[.int .i64 id, .string ⟨#[]⟩, .slice none 0 0] 101)
  have hR := box_old (box_new (w.alloc (.cells #[.int .i64 id, .string kd, .slice a L.length cap] 156)) (.int .i64 0) (.string ⟨#[]⟩) (.slice none 0 0) 101) (by simp) (.cells #[.int .i64 id, .string ⟨#[]⟩, .slice none 0 0] 101)
  have hX := box_new ((w.alloc (.cells #[.int .i64 id, .string kd, .slice a L.length cap] 156)).alloc (.cells #[.int .i64 0, .string ⟨#[]⟩, .slice none 0 0] 101)) (.int .i64 id) (.string ⟨#[]⟩) (.slice none 0 0) 101
  simp only [World.size_alloc] at hR hX
  refine (toFact_any kd a cap L _ (hr.below b2) hn).mono ?_
  rintro e w1 ⟨g, rfl, hg, hO, hb⟩
  have HR := hide (box_below hR hb (by simp))
  have HX := hide (box_below hX hb (by simp))
  have hB : Below w.heap.size w w1 := b2.trans (hb.mono b2.size)
  clear hb hR hX b0 b1 b2
  simp only [World.size_alloc] at hg
  obtain ⟨x0, x1, x2, xf0, xf1, xf2⟩ := box_cell HX.out
  obtain ⟨r0, r1, r2, rf0, rf1, rf2⟩ := box_cell HR.out
  have HX2 := hide (box_set12 HX.out (.string kd) (.slice (some ⟨g, 0, none⟩) L.length L.length))
  have HR2 := hide (box_gr HR.out HX2.out.2 (by omega))
  go_wp2
  refine box_post HR2.out (fun w4 h4 gr => ?_)
  clear x0 x1 x2 xf0 xf1 xf2 r0 r1 r2 rf0 rf1 rf2
  obtain ⟨c0, c1, c2, -, -, -⟩ := box_cell h4
  have hz := hO.lt
  exact bodyPost_ret (v := .agg #[.int .i64 id, .string kd, .slice (some ⟨g, 0, none⟩) L.length L.length]) (by simp [results, Tryd.results124, go_sem, c0, c1, c2]) rfl
    ⟨_, rfl, by omega, (hO.grown HX2.out.2 (by omega)).grown gr (by omega), below_set (hB.grown HX2.out.2 hB.size (fun k hk => by cases hk; omega)) gr (by omega)⟩

/-- a list of values in memory, or none -/
def LieV (a : Option Addr) (n cap : Nat) : Prop := (a = none ∧ n = 0 ∧ cap = 0) ∨ ∃ b off, a = some ⟨b, off, none⟩ ∧ n ≤ cap ∧ cap ≤ maxLen
theorem OwnV.lies {w : World} {g cap : Nat} {L : List V3} (h : OwnV w g cap L) : LieV (some ⟨g, 0, none⟩) L.length cap := by
  refine .inr ⟨g, 0, rfl, h.cap, ?_⟩
  rcases h.2 with ⟨h1, _⟩ | ⟨g', cap', cur, h1, hb', hh, hnc, hcm, _⟩
  · simp at h1
  · simp only [Value.slice.injEq] at h1
    omega
theorem LieV.nil : LieV none 0 0 := .inl ⟨rfl, rfl, rfl⟩
/-- block g holds the items K, at its head; the values of each item that has any lie in a block of their own -/
structure HoldsI (w : World) (lo g cp : Nat) (K : List It) : Prop where
  own : w.ownsRow 0 101 3 (.slice (some ⟨g, 0, none⟩) K.length cp) K.length (rowOf It.cells K)
  low : lo ≤ g
  vals : ∀ i, i < K.length → (iAt K i).L ≠ [] → ∃ q, (iAt K i).a = some ⟨q, 0, none⟩ ∧ lo ≤ q ∧ q ≠ g ∧ OwnV w q (iAt K i).cap (iAt K i).L
  apart : ∀ i j, i < j → j < K.length → (iAt K i).L ≠ [] → (iAt K j).L ≠ [] → (iAt K i).a ≠ (iAt K j).a
  lies : ∀ i, i < K.length → LieV (iAt K i).a (iAt K i).L.length (iAt K i).cap
theorem HoldsI.rd {w : World} {lo g cp : Nat} {K : List It} (h : HoldsI w lo g cp K) : RdI w (some ⟨g, 0, none⟩) K :=
  (rdI_owns h.own (fun i hi => by
    by_cases e : (iAt K i).L = []
    · rw [e]; exact RdV.nil _ _
    · obtain ⟨q, e, -, -, o⟩ := h.vals i hi e; rw [e]; exact o.rd)).1
theorem HoldsI.later {w w' : World} {lo g cp : Nat} {K : List It} (h : HoldsI w lo g cp K) (hb : Below w.heap.size w w') : HoldsI w' lo g cp K :=
  ⟨ownsRow_below h.own hb, h.low, fun i hi hne => by obtain ⟨q, e, h1, h2, o⟩ := h.vals i hi hne; exact ⟨q, e, h1, h2, o.later hb⟩, h.apart, h.lies⟩
theorem HoldsI.lt {w : World} {lo g cp : Nat} {K : List It} (h : HoldsI w lo g cp K) : g < w.heap.size := (World.ownsRow.lt h.own g rfl).2
theorem HoldsI.grown {w w' : World} {lo g cp q : Nat} {K : List It} (h : HoldsI w lo g cp K) (hg : w.grownBy w' (some q)) (hlo : q < lo) : HoldsI w' lo g cp K := by
  refine ⟨World.ownsRow.kept h.own hg (.inr ?_), h.low, fun i hi hne => ?_, h.apart, h.lies⟩
  · have := h.low
    simp [Value.ownBlock]; omega
  · obtain ⟨p, e, h1, h2, o⟩ := h.vals i hi hne
    exact ⟨p, e, h1, h2, o.grown hg (by omega)⟩
theorem HoldsI.weaken {w : World} {lo lo' g cp : Nat} {K : List It} (h : HoldsI w lo g cp K) (hl : lo' ≤ lo) : HoldsI w lo' g cp K :=
  ⟨h.own, Nat.le_trans hl h.low, fun i hi hne => by obtain ⟨p, e, h1, h2, o⟩ := h.vals i hi hne; exact ⟨p, e, Nat.le_trans hl h1, h2, o⟩, h.apart, h.lies⟩
theorem grown_tr {a b c : World} {row : Option Nat} (h : a.grownBy b row) (k : b.grownBy c row) : a.grownBy c row :=
  ⟨k.os.trans h.os, k.tape.trans h.tape, k.output.trans h.output, Nat.le_trans h.size k.size, fun i hi hne => (k.block i (Nat.lt_of_lt_of_le hi h.size) hne).trans (h.block i hi hne)⟩

/-- the first k items are copied -/
def Copied (w : World) (lo g : Nat) (J K : List It) (k : Nat) : Prop :=
  (∀ i, i < k → (iAt K i).pl = (iAt J i).pl ∧ ((iAt K i).L ≠ [] → ∃ q, (iAt K i).a = some ⟨q, 0, none⟩ ∧ lo ≤ q ∧ q ≠ g ∧ OwnV w q (iAt K i).cap (iAt K i).L) ∧ LieV (iAt K i).a (iAt K i).L.length (iAt K i).cap) ∧ ∀ i j, i < j → j < k → (iAt K i).L ≠ [] → (iAt K j).L ≠ [] → (iAt K i).a ≠ (iAt K j).a
theorem Copied.zero (w : World) (lo g : Nat) (J K : List It) : Copied w lo g J K 0 := ⟨fun i hi => absurd hi (Nat.not_lt_zero _), fun i j _ hj => absurd hj (Nat.not_lt_zero _)⟩
/-- one item more: its values are none, or lie in a block that is new -/
theorem Copied.more {w w1 w2 : World} {lo g : Nat} {J K K' : List It} {k : Nat} {x : It} (h : Copied w lo g J K k) (hb : Below w.heap.size w w1) (hg : w1.grownBy w2 (some g)) (hsame : ∀ i, i < k → iAt K' i = iAt K i) (hnew : iAt K' k = x) (hx : x.pl = (iAt J k).pl)
    (hq : x.L ≠ [] → ∃ q, x.a = some ⟨q, 0, none⟩ ∧ w.heap.size ≤ q ∧ OwnV w1 q x.cap x.L) (hli : LieV x.a x.L.length x.cap) (hlo : lo ≤ w.heap.size) (hgl : g < w.heap.size) : Copied w2 lo g J K' (k + 1) := by
  refine ⟨fun i hi => ?_, fun i j hij hj => ?_⟩
  · by_cases e : i = k
    · rw [e, hnew]
      exact ⟨hx, fun hne => by obtain ⟨q, h1, h2, o⟩ := hq hne; exact ⟨q, h1, by omega, by omega, o.grown hg (by omega)⟩, hli⟩
    · rw [hsame i (by omega)]
      obtain ⟨h2, h3, h4⟩ := h.1 i (by omega)
      exact ⟨h2, fun hne => by obtain ⟨p, h5, h6, h7, h8⟩ := h3 hne; exact ⟨p, h5, h6, h7, (h8.later hb).grown hg h7⟩, h4⟩
  · rw [hsame i (by omega)]
    intro hne
    by_cases e : j = k
    · rw [e, hnew]
      intro hne2
      obtain ⟨q, h1, h2, -⟩ := hq hne2
      obtain ⟨p, h3, -, -, h6⟩ := (h.1 i (by omega)).2.1 hne
      rw [h3, h1]
      have := h6.lt
      intro he
      simp only [Option.some.injEq, Addr.mk.injEq, and_true] at he
      omega
    · rw [hsame j (by omega)]
      exact h.2 i j hij (by omega) hne
theorem Copied.step {w w1 w2 : World} {lo g : Nat} {J K : List It} {k q : Nat} {x : It} (h : Copied w lo g J K k) (hb : Below w.heap.size w w1) (hg : w1.grownBy w2 (some g)) (hk : k < K.length) (hx : x.pl = (iAt J k).pl)
    (hq : x.a = some ⟨q, 0, none⟩) (h1 : w.heap.size ≤ q) (hlo : lo ≤ w.heap.size) (hgl : g < w.heap.size) (o : OwnV w1 q x.cap x.L) : Copied w2 lo g J (K.set k x) (k + 1) :=
  h.more hb hg (fun i hi => by rw [iAt_set hk, if_neg (by omega)]) (by rw [iAt_set hk, if_pos rfl]) hx (fun _ => ⟨q, hq, h1, o⟩) (by rw [hq]; exact o.lies) hlo hgl
theorem Copied.done {w : World} {lo g cp : Nat} {J K : List It} (h : Copied w lo g J K K.length) (hl : K.length = J.length) (hlo : lo ≤ g) (o : w.ownsRow lo 101 3 (.slice (some ⟨g, 0, none⟩) K.length cp) K.length (rowOf It.cells K)) : HoldsI w lo g cp K ∧ K.map It.pl = J.map It.pl := by
  refine ⟨⟨?_, hlo, fun i hi => (h.1 i hi).2.1, h.2, fun i hi => (h.1 i hi).2.2⟩, pl_ext hl (fun i hi => (h.1 i hi).1)⟩
  refine ⟨o.1, ?_⟩
  rcases o.2 with h2 | ⟨g, cap, cur, h1, hb, rest⟩
  · exact .inl h2
  · exact .inr ⟨g, cap, cur, h1, Nat.zero_le _, rest⟩

theorem Tryd.info101 : (Tryd.prog.info? 101).map (fun i => (i.zero, i.size, i.bytes)) = some (some (.agg #[.int .i64 0, .string ⟨#[]⟩, .slice none 0 0]), 3, 48) := by kernel_rfl
theorem It.zero_cells : It.cells ⟨0, ⟨#[]⟩, none, 0, []⟩ = [.int .i64 0, .string ⟨#[]⟩, .slice none 0 0] := rfl

set_option maxRecDepth 100000 in
set_option maxHeartbeats 3200000 in
theorem toItemS_any (a : Option Addr) (cap : Nat) (J : List It) (w : World) (hr : RdI w a J) (hn : J.length ≤ 1048576) (hl : ∀ i, i < J.length → (iAt J i).L.length ≤ 1048576) :
    Calls Tryd.prog 73 #[.slice a J.length cap] w fun e w' =>
      ∃ K g, e = .returned (.slice (some ⟨g, 0, none⟩) J.length J.length) ∧ HoldsI w' w.heap.size g J.length K ∧ K.map It.pl = J.map It.pl ∧ Below w.heap.size w w' := by
  obtain ⟨i0, hi, hz0, hz1, hz2⟩ := info_parts Tryd.info101
  obtain ⟨n, hN⟩ : ∃ n, n = J.length := ⟨_, rfl⟩
  rw [← hN] at hn ⊢
  have HN := hide hN
  have HL := hide hl
  clear hN hl
  go_enter Tryd.func73, Tryd.ntmps73
  go_wp2_with (at_make; refine wpList_make_full _ rfl _ _ 62 rfl w.heap.size 101 i0 (.agg #[.int .i64 0, .string ⟨#[]⟩, .slice none 0 0]) 3 Tryd.underlying62 hi hz0 hz1 _ _ _ _ n rfl rfl (by omega) (by omega) ?b2 ?b3 (Nat.le_refl _) ?_)
  case b2 => rw [hz2]; omega
  case b3 => unfold maxLen; omega
  intro w0 hown0 hgrow0
  rw [rowOf_replicate It.zero_cells] at hown0
  have hs0 : w.heap.size < w0.heap.size := (hown0.lt w.heap.size rfl).2
  have hb0 : Below w.heap.size w w0 := (Below.refl _ _).grown hgrow0 (Nat.le_refl _) (fun k h => by cases h)
  go_wp2
  go_loopw [4] (fun i wr => ∃ (k : Nat) (K : List It), k ≤ n ∧ i = .int .i64 k ∧ K.length = n ∧ wr.ownsRow w.heap.size 101 3 (.slice (some ⟨w.heap.size, 0, none⟩) n n) n (rowOf It.cells K) ∧ Copied wr w.heap.size w.heap.size J K k ∧ Below w.heap.size w wr ∧ w.heap.size < wr.heap.size)
    (fun i _ => n - (intOf i).toNat)
  case atStart => exact ⟨0, List.replicate n ⟨0, ⟨#[]⟩, none, 0, []⟩, Nat.zero_le _, rfl, by simp, hown0, Copied.zero _ _ _ _ _, hb0, hs0⟩
  case round =>
    clear hown0 hgrow0 hb0 hs0
    obtain ⟨k, K, hk, rfl, hKn, hown, hcop, hbel, hsz⟩ := hrel
    have HKn := hide hKn
    have HCop := hide hcop
    clear hKn hcop
    by_cases hlt : k < n
    · obtain ⟨b, off, hab, hbw, hc⟩ := hr.open (by rw [← HN.out]; omega)
      obtain ⟨c0, c1, c2, hv⟩ := hc k (by rw [← HN.out]; exact hlt)
      have HV := hide (hv.below hbel)
      clear hc hv
      subst hab
      rw [← hbel.cell (p := ⟨b, off + k * 3, none⟩) hbw] at c0
      rw [← hbel.cell (p := ⟨b, off + k * 3 + 1, none⟩) hbw] at c1
      rw [← hbel.cell (p := ⟨b, off + k * 3 + 2, none⟩) hbw] at c2
      have HK := hide (HL.out k (by rw [← HN.out]; exact hlt))
      obtain ⟨x, hx⟩ : ∃ x, x = iAt J k := ⟨_, rfl⟩
      rw [← hx] at c0 c1 c2 HV HK
      have HX := hide hx
      clear hx
      obtain ⟨id, kd, va, vc, L⟩ := x
      simp only at c0 c1 c2 HV HK
      go_wp2_with fail
      refine (toItem_any id kd va vc L _ HV.out HK.out).mono ?_
      rintro e w2 ⟨g, rfl, hg, o, hb2⟩
      have hown2 : w2.ownsRow w.heap.size 101 3 (.slice (some ⟨w.heap.size, 0, none⟩) n n) n (rowOf It.cells K) := ownsRow_below hown hb2
      have hbel2 : Below w.heap.size w w2 := hbel.trans (hb2.mono hbel.size)
      have hlen : (rowOf It.cells K).length = n * 3 := by rw [rowOf_length It.cells_length, HKn.out]
      have hmem : ∀ j, j < 3 → ∃ u, w2.cell? ⟨w.heap.size, k * 3 + j, none⟩ = some u := fun j hj => by
        rw [hown2.cellAt (k * 3 + j) (by omega), List.getElem?_eq_getElem (by omega)]
        exact ⟨_, rfl⟩
      obtain ⟨u0, m0⟩ := hmem 0 (by omega)
      obtain ⟨u1, m1⟩ := hmem 1 (by omega)
      obtain ⟨u2, m2⟩ := hmem 2 (by omega)
      rw [Nat.add_zero] at m0
      have f0 := hown2.frozenAt (k * 3)
      have f1 := hown2.frozenAt (k * 3 + 1)
      have f2 := hown2.frozenAt (k * 3 + 2)
      have s1 := hown2.stored (k * 3) (.int .i64 id)
      have s2 := s1.1.stored (k * 3 + 1) (.string kd)
      have s3 := s2.1.stored (k * 3 + 2) (.slice (some ⟨g, 0, none⟩) L.length L.length)
      have HO := hide s3.1
      have hset := rowOf_set3 It.cells_length ⟨id, kd, some ⟨g, 0, none⟩, L.length, L⟩ (.int .i64 id) (.string kd) (.slice (some ⟨g, 0, none⟩) L.length L.length) rfl K k (by rw [HKn.out]; exact hlt)
      rw [hset] at HO
      have HC := hide (HCop.out.step (x := ⟨id, kd, some ⟨g, 0, none⟩, L.length, L⟩) hb2 (grown_tr (grown_tr s1.2 s2.2) s3.2) (by rw [HKn.out]; exact hlt) (by rw [← HX.out]; rfl) rfl hg (Nat.le_of_lt hsz) hsz o)
      have HB : Hid (Below w.heap.size w (((w2.setCell ⟨w.heap.size, k * 3, none⟩ (.int .i64 id)).setCell ⟨w.heap.size, k * 3 + 1, none⟩ (.string kd)).setCell ⟨w.heap.size, k * 3 + 2, none⟩ (.slice (some ⟨g, 0, none⟩) L.length L.length))) := ((hbel2.setCell (Nat.le_refl _) _).setCell (Nat.le_refl _) _).setCell (Nat.le_refl _) _
      have HZ : Hid (w.heap.size < (((w2.setCell ⟨w.heap.size, k * 3, none⟩ (.int .i64 id)).setCell ⟨w.heap.size, k * 3 + 1, none⟩ (.string kd)).setCell ⟨w.heap.size, k * 3 + 2, none⟩ (.slice (some ⟨g, 0, none⟩) L.length L.length)).heap.size) := by
        have h1 := hb2.size
        have h2 := (grown_tr (grown_tr s1.2 s2.2) s3.2).size
        exact Nat.lt_of_lt_of_le (Nat.lt_of_lt_of_le hsz h1) h2
      have HLen : Hid ((K.set k ⟨id, kd, some ⟨g, 0, none⟩, L.length, L⟩).length = n) := by unfold Hid; rw [List.length_set, HKn.out]
      clear hmem hlen c0 c1 c2 hown hbel hb2 s1 s2 s3 hset hown2 hbel2 o HV HK HCop
      go_wp2
      go_roundw
      case rel => exact ⟨k + 1, _, by omega, by go_num, HLen.out, HO.out, HC.out, HB.out, HZ.out⟩
      case measure => simp [intOf]; omega
    · have hkn : k = K.length := by rw [HKn.out]; omega
      have HR : Hid (HoldsI wr w.heap.size w.heap.size n K ∧ K.map It.pl = J.map It.pl) := by
        refine Copied.done (hkn ▸ HCop.out) (by rw [HKn.out, HN.out]) (Nat.le_refl _) ?_
        rw [HKn.out]; exact hown
      clear hkn hown
      go_wp2
      go_ret
      exact ⟨K, _, rfl, HR.out.1, HR.out.2, hbel⟩

set_option maxRecDepth 100000 in
set_option maxHeartbeats 1600000 in
theorem toStore_any (a : Option Addr) (cap : Nat) (J : List It) (nx : Int) (w : World) (hr : RdI w a J) (hn : J.length ≤ 1048576) (hl : ∀ i, i < J.length → (iAt J i).L.length ≤ 1048576) :
    Calls Tryd.prog 30 #[.agg #[.slice a J.length cap, .int .i64 nx]] w fun e w' =>
      ∃ K g, e = .returned (.agg #[.slice (some ⟨g, 0, none⟩) J.length J.length, .int .i64 nx]) ∧ HoldsI w' w.heap.size g J.length K ∧ K.map It.pl = J.map It.pl ∧ Below w.heap.size w w' := by
  go_enter Tryd.func30, Tryd.ntmps30
  go_wp2_with fail
  have b0 := below_al w (.cells #[.slice a J.length cap, .int .i64 nx] 59)
  have b1 := b0.alloc b0.size (.cells #[.slice none 0 0, .int .i64 0] 64)
  have b2 := b1.alloc b1.size (.cells #[.slice none 0 0, .int .i64 0] 64)
  have hA := box_old (box_old (box2_new w (.slice a J.length cap) (.int .i64 nx) 59) (by simp) (.cells #[.slice none 0 0, .int .i64 0] 64)) (by simp; omega) (.cells #[.slice none 0 0, .int .i64 0] 64)
  have hR := box_old (box2_new (w.alloc (.cells #[.slice a J.length cap, .int .i64 nx] 59)) (.slice none 0 0) (.int .i64 0) 64) (by simp) (.cells #[.slice none 0 0, .int .i64 0] 64)
  have hX := box2_new ((w.alloc (.cells #[.slice a J.length cap, .int .i64 nx] 59)).alloc (.cells #[.slice none 0 0, .int .i64 0] 64)) (.slice none 0 0) (.int .i64 0) 64
  simp only [World.size_alloc] at hA hR hX
  refine (toItemS_any a cap J _ (hr.below b2) hn hl).mono ?_
  rintro e w1 ⟨K, g, rfl, hH, hpl, hb⟩
  have HA := hide (box_below hA hb (by simp; omega))
  have HR := hide (box_below hR hb (by simp))
  have HX := hide (box_below hX hb (by simp))
  have hB : Below w.heap.size w w1 := b2.trans (hb.mono b2.size)
  have hz : w.heap.size + 1 + 1 + 1 ≤ g := by have := hH.low; simp only [World.size_alloc] at this; exact this
  have HP := hide hpl
  have HH := hide hH
  clear hb hA hR hX b0 b1 b2 hpl hH
  obtain ⟨x0, x1, xf0, xf1⟩ := box2_cell HX.out
  obtain ⟨r0, r1, rf0, rf1⟩ := box2_cell HR.out
  obtain ⟨a0, a1, -, -⟩ := box2_cell HA.out
  have HX2 := hide (box2_set HX.out (.slice (some ⟨g, 0, none⟩) J.length J.length) (.int .i64 nx))
  have HR2 := hide (box_gr HR.out HX2.out.2 (by omega))
  go_wp2
  refine box2_post HR2.out (fun w4 h4 gr => ?_)
  clear x0 x1 xf0 xf1 r0 r1 rf0 rf1 a0 a1
  obtain ⟨c0, c1, -, -⟩ := box2_cell h4
  refine bodyPost_ret (v := .agg #[.slice (some ⟨g, 0, none⟩) J.length J.length, .int .i64 nx]) (by simp [results, Tryd.results30, go_sem, c0, c1]) rfl
    ⟨K, g, rfl, ?_, HP.out, below_set (hB.grown HX2.out.2 hB.size (fun k hk => by cases hk; omega)) gr (by omega)⟩
  have h1 := HH.out.grown HX2.out.2 (by simp)
  have h2 := h1.grown gr (by simp)
  exact h2.weaken (by simp; omega)
end Go.Proofs.YtbellpalomiokacDoor
/-
  Four cells in memory, and whatever else is kept where all that was there is.
-/
namespace Go.Proofs.YtbellpalomiokacDoor
open Go.RowKit
set_option linter.unusedVariables false

theorem keep4 {P : World → Prop} {W w' : World} {p0 p1 p2 p3 : Addr} {v0 v1 v2 v3 : Value} (hP : ∀ {W W' : World}, P W → Below W.heap.size W W' → P W') (hb : Below W.heap.size W w')
    (h : W.cell? p0 = some v0 ∧ W.cell? p1 = some v1 ∧ W.cell? p2 = some v2 ∧ W.cell? p3 = some v3 ∧ P W) :
    w'.cell? p0 = some v0 ∧ w'.cell? p1 = some v1 ∧ w'.cell? p2 = some v2 ∧ w'.cell? p3 = some v3 ∧ P w' := by
  obtain ⟨h0, h1, h2, h3, h4⟩ := h
  have k : ∀ {a : Addr} {v : Value}, W.cell? a = some v → w'.cell? a = some v := fun {a v} h => by rw [hb.cell (World.block_lt_of_cell? W _ h)]; exact h
  exact ⟨k h0, k h1, k h2, k h3, hP h4 hb⟩
theorem kept0 {W w' : World} {p : Addr} {v : Value} (hb : Below W.heap.size W w') (h : W.cell? p = some v) : w'.cell? p = some v := by rw [hb.cell (World.block_lt_of_cell? W _ h)]; exact h

/-- a store and a fact as they came in, and all that was there at the head -/
structure SF (w : World) (a b : Option Addr) (J : List It) (M : List V3) (W : World) : Prop where
  rdI : RdI W a J
  rdV : RdV W b M
  bel : Below w.heap.size w W
theorem SF.keep {w W W' : World} {a b : Option Addr} {J : List It} {M : List V3} (h : SF w a b J M W) (hb : Below W.heap.size W W') : SF w a b J M W' :=
  ⟨h.rdI.below hb, h.rdV.below hb, h.bel.trans (hb.mono h.bel.size)⟩
theorem SF.drew {w W : World} {a b : Option Addr} {J : List It} {M : List V3} (h : SF w a b J M W) : SF w a b J M W.drew := h.keep ((Below.refl _ _).drew)
theorem SF.rdi {w W : World} {a b : Option Addr} {J : List It} {M : List V3} {p0 p1 p2 p3 : Addr} {v0 v1 v2 v3 : Value} (h : W.cell? p0 = some v0 ∧ W.cell? p1 = some v1 ∧ W.cell? p2 = some v2 ∧ W.cell? p3 = some v3 ∧ SF w a b J M W) : RdI W a J := h.2.2.2.2.rdI
theorem SF.rdv {w W : World} {a b : Option Addr} {J : List It} {M : List V3} {p0 p1 p2 p3 : Addr} {v0 v1 v2 v3 : Value} (h : W.cell? p0 = some v0 ∧ W.cell? p1 = some v1 ∧ W.cell? p2 = some v2 ∧ W.cell? p3 = some v3 ∧ SF w a b J M W) : RdV W b M := h.2.2.2.2.rdV
/-- a store as it came in, its copy, and all that was there at the head -/
structure SC (w : World) (a : Option Addr) (lo g cp : Nat) (J K : List It) (W : World) : Prop where
  rdI : RdI W a J
  copy : HoldsI W lo g cp K
  bel : Below w.heap.size w W
theorem SC.keep {w W W' : World} {a : Option Addr} {lo g cp : Nat} {J K : List It} (h : SC w a lo g cp J K W) (hb : Below W.heap.size W W') : SC w a lo g cp J K W' :=
  ⟨h.rdI.below hb, h.copy.later hb, h.bel.trans (hb.mono h.bel.size)⟩
theorem SC.drew {w W : World} {a : Option Addr} {lo g cp : Nat} {J K : List It} (h : SC w a lo g cp J K W) : SC w a lo g cp J K W.drew := h.keep ((Below.refl _ _).drew)
theorem SC.rdi {w W : World} {a : Option Addr} {lo g cp : Nat} {J K : List It} {p0 p1 p2 p3 : Addr} {v0 v1 v2 v3 : Value} (h : W.cell? p0 = some v0 ∧ W.cell? p1 = some v1 ∧ W.cell? p2 = some v2 ∧ W.cell? p3 = some v3 ∧ SC w a lo g cp J K W) : RdI W a J := h.2.2.2.2.rdI
theorem SC.cp {w W : World} {a : Option Addr} {lo g cp : Nat} {J K : List It} {p0 p1 p2 p3 : Addr} {v0 v1 v2 v3 : Value} (h : W.cell? p0 = some v0 ∧ W.cell? p1 = some v1 ∧ W.cell? p2 = some v2 ∧ W.cell? p3 = some v3 ∧ SC w a lo g cp J K W) : RdI W (some ⟨g, 0, none⟩) K := h.2.2.2.2.copy.rd

end Go.Proofs.YtbellpalomiokacDoor
/-
  What the model's StoreOk answers: storeB.
-/
namespace Go.Proofs.YtbellpalomiokacDoor
open Go.RowKit
set_option linter.unusedVariables false

theorem keep6P {P : World → Prop} {W w' : World} {p0 p1 p2 p3 p4 p5 : Addr} {v0 v1 v2 v3 v4 v5 : Value} (hP : ∀ {W W' : World}, P W → Below W.heap.size W W' → P W') (hb : Below W.heap.size W w')
    (h : W.cell? p0 = some v0 ∧ W.cell? p1 = some v1 ∧ W.cell? p2 = some v2 ∧ W.cell? p3 = some v3 ∧ W.cell? p4 = some v4 ∧ W.cell? p5 = some v5 ∧ P W) :
    w'.cell? p0 = some v0 ∧ w'.cell? p1 = some v1 ∧ w'.cell? p2 = some v2 ∧ w'.cell? p3 = some v3 ∧ w'.cell? p4 = some v4 ∧ w'.cell? p5 = some v5 ∧ P w' := by
  obtain ⟨h0, h1, h2, h3, h4, h5, h6⟩ := h
  have k : ∀ {a : Addr} {v : Value}, W.cell? a = some v → w'.cell? a = some v := fun {a v} h => by rw [hb.cell (World.block_lt_of_cell? W _ h)]; exact h
  exact ⟨k h0, k h1, k h2, k h3, k h4, k h5, hP h6 hb⟩
theorem keep5P {P : World → Prop} {W w' : World} {p0 p1 p2 p3 p4 : Addr} {v0 v1 v2 v3 v4 : Value} (hP : ∀ {W W' : World}, P W → Below W.heap.size W W' → P W') (hb : Below W.heap.size W w')
    (h : W.cell? p0 = some v0 ∧ W.cell? p1 = some v1 ∧ W.cell? p2 = some v2 ∧ W.cell? p3 = some v3 ∧ W.cell? p4 = some v4 ∧ P W) :
    w'.cell? p0 = some v0 ∧ w'.cell? p1 = some v1 ∧ w'.cell? p2 = some v2 ∧ w'.cell? p3 = some v3 ∧ w'.cell? p4 = some v4 ∧ P w' := by
  obtain ⟨h0, h1, h2, h3, h4, h6⟩ := h
  have k : ∀ {a : Addr} {v : Value}, W.cell? a = some v → w'.cell? a = some v := fun {a v} h => by rw [hb.cell (World.block_lt_of_cell? W _ h)]; exact h
  exact ⟨k h0, k h1, k h2, k h3, k h4, hP h6 hb⟩
theorem l1In_s (x a b : Int) (w : World) : Calls Tryd.prog 71 #[.int .i64 x, .int .i64 a, .int .i64 b] w fun e w' => e = .returned (.bool (inB x a b)) ∧ w' = w := by
  by_cases h1 : a ≤ x
  · by_cases h2 : x ≤ b
    · rw [inB_t ⟨h1, h2⟩]
      go_enter Tryd.func71, Tryd.ntmps71
      go_wp2
      go_ret
      exact ⟨rfl, rfl⟩
    · rw [inB_f (fun h => h2 h.2)]
      go_enter Tryd.func71, Tryd.ntmps71
      go_wp2
      go_ret
      exact ⟨rfl, rfl⟩
  · rw [inB_f (fun h => h1 h.1)]
    go_enter Tryd.func71, Tryd.ntmps71
    go_wp2
    go_ret
    exact ⟨rfl, rfl⟩

set_option maxRecDepth 100000 in
set_option maxHeartbeats 64000000 in
theorem specStoreOk_any (a : Option Addr) (n cap : Nat) (nx : Int) (J : List It) (w : World) (hr : RdI w a J) (hJ : J.length = n) (hn : n ≤ 1048580) (hs : ∀ i, i < J.length → okI (iAt J i)) (hl : ∀ i, i < J.length → (iAt J i).L.length ≤ 1048580) :
    Calls Tryd.prog 29 #[.agg #[.slice a n cap, .int .i64 nx]] w fun e w' => e = .returned (.bool (storeB nx J)) ∧ Below w.heap.size w w' := by
  have b0 := below_al w (.cells #[.slice a n cap, .int .i64 nx] 64)
  have HNo : Hid (¬ (1 ≤ nx ∧ nx ≤ 1000000 ∧ n ≤ 40) → storeB nx J = false) := fun h => storeB_no (fun hr => h (by rw [← hJ]; exact hr.1))
  have hA := box2_new w (.slice a n cap) (.int .i64 nx) 64
  cases hin : inB nx 1 1000000
  · have HF := hide (HNo.out (fun h => by rw [inB_t ⟨h.1, h.2.1⟩] at hin; cases hin))
    go_enter Tryd.func29, Tryd.ntmps29
    go_wp2_with (go_at_call 71; refine (l1In_s _ _ _ _).mono ?_; rw [hin]; rintro e w' ⟨rfl, rfl⟩)
    go_ret
    exact ⟨ret_bool HF.out.symm, b0⟩
  by_cases h40 : (40 : Int) < (n : Int)
  · have HF := hide (HNo.out (by omega))
    go_enter Tryd.func29, Tryd.ntmps29
    go_wp2_with (go_at_call 71; refine (l1In_s _ _ _ _).mono ?_; rw [hin]; rintro e w' ⟨rfl, rfl⟩)
    go_ret
    exact ⟨ret_bool HF.out.symm, b0⟩
  have hin2 : 1 ≤ nx ∧ nx ≤ 1000000 := by unfold inB at hin; simpa using hin
  have H0 : Hid (1 ≤ nx ∧ nx ≤ 1000000 ∧ J.length ≤ 40) := ⟨hin2.1, hin2.2, by rw [hJ]; omega⟩
  have HJ := hide hJ
  have HS := hide hs
  have HL := hide hl
  have HIn := hide hin
  clear hJ hs hl hin hin2 HNo
  go_enter Tryd.func29, Tryd.ntmps29
  go_wp2_with (go_at_call 71; refine (l1In_s _ _ _ _).mono ?_; rw [HIn.out]; rintro e w' ⟨rfl, rfl⟩)
  generalize w.alloc (.cells #[.slice a n cap, .int .i64 nx] 64) = w1 at b0 hA ⊢
  obtain ⟨s0, s1, -, -⟩ := box2_cell hA
  have hzA := (Array.getElem?_eq_some_iff.1 hA).1
  replace hr := hr.below b0
  clear hA
  go_loopw [3] (fun i wr => ∃ (k : Nat), k ≤ n ∧ i = .int .i64 k ∧ (∀ j, j < k → okAt J nx j ∧ idP (J.map It.pl) (iAt J j).kd (iAt J j).L = (iAt J j).id) ∧ Below w1.heap.size w1 wr) (fun i _ => n - (intOf i).toNat)
  case atStart => exact ⟨0, Nat.zero_le _, rfl, fun j hj => absurd hj (Nat.not_lt_zero _), Below.refl _ _⟩
  case round =>
    obtain ⟨k, hk, rfl, hok, hbel⟩ := hrel
    have HOk := hide hok
    clear hok
    rw [← hbel.cell (p := ⟨w.heap.size, 0, none⟩) hzA] at s0
    rw [← hbel.cell (p := ⟨w.heap.size, 1, none⟩) hzA] at s1
    have hB : Below w.heap.size w wr := b0.trans (hbel.mono b0.size)
    by_cases hlt : k < n
    · obtain ⟨b2, o2, e2, hbw2, hc2⟩ := (hr.below hbel).open (by rw [HJ.out]; omega)
      obtain ⟨c0, c1, c2, hv⟩ := hc2 k (by rw [HJ.out]; exact hlt)
      have hkJ : k < J.length := by rw [HJ.out]; exact hlt
      have HSk := hide (HS.out k hkJ)
      have HLk := hide (HL.out k hkJ)
      have HW : Hid (¬ okAt J nx k → storeB nx J = false) := wrong_at hkJ
      have HWi : Hid (idP (J.map It.pl) (iAt J k).kd (iAt J k).L ≠ (iAt J k).id → storeB nx J = false) := wrong_id hkJ
      have HOkk : Hid (prevId J k < (iAt J k).id → (iAt J k).id < nx → factB (iAt J k).kd (iAt J k).L = true → okAt J nx k) := fun h1 h2 h3 => ⟨h1, h2, h3⟩
      have HNo : Hid (¬ (prevId J k < (iAt J k).id ∧ (iAt J k).id < nx ∧ factB (iAt J k).kd (iAt J k).L = true) → ¬ okAt J nx k) := fun h1 h2 => h1 h2
      have hpos : 0 ≤ prevId J k ∧ (0 < k → wr.cell? ⟨b2, o2 + (k - 1) * 3, none⟩ = some (.int .i64 (prevId J k))) := by
        constructor
        · unfold prevId
          split
          · exact Int.le_refl _
          · have := (ids_up (J := J) (nx := nx) (n := k) (by omega) (fun j hj => (HOk.out j hj).1)).1 (k - 1) (by omega); omega
        · intro h0
          have := (hc2 (k - 1) (by omega)).1
          unfold prevId
          rw [if_neg (by omega)]
          exact this
      obtain ⟨hpos, hpc⟩ := hpos
      have HZ : Hid (k = 0 → prevId J k = 0) := fun h => by unfold prevId; rw [if_pos h]
      have hrw := hr.below hbel
      clear hc2 hkJ
      subst e2
      obtain ⟨p, hp⟩ : ∃ p, p = prevId J k := ⟨_, rfl⟩
      rw [← hp] at HOkk HNo hpos hpc HZ
      clear hp
      obtain ⟨R, hR⟩ : ∃ R, idP (J.map It.pl) (iAt J k).kd (iAt J k).L = R := ⟨_, rfl⟩
      have HR := hide hR
      rw [hR] at HWi
      clear hR
      obtain ⟨x, hx⟩ : ∃ x, x = iAt J k := ⟨_, rfl⟩
      have HX := hide hx
      rw [← hx] at c0 c1 c2 hv HSk HLk HOkk HNo HR HWi
      clear hx
      obtain ⟨id, kd, va, vc, L⟩ := x
      simp only at c0 c1 c2 hv HSk HLk HOkk HNo HR HWi
      have ba := below_al wr (.cells #[.int .i64 id, .string kd, .slice va L.length vc] 101)
      have HBox := hide (box_new wr (.int .i64 id) (.string kd) (.slice va L.length vc) 101)
      have hB1 : Below w.heap.size w (wr.alloc (.cells #[.int .i64 id, .string kd, .slice va L.length vc] 101)) := hB.trans (ba.mono hB.size)
      have hb1 : Below w1.heap.size w1 (wr.alloc (.cells #[.int .i64 id, .string kd, .slice va L.length vc] 101)) := hbel.trans (ba.mono hbel.size)
      have s0' := kept0 ba s0
      have s1' := kept0 ba s1
      have hv1 := hv.below ba
      have hr1 := hrw.below ba
      obtain ⟨x0, x1, x2, -, -, -⟩ := box_cell HBox.out
      have hSF : ∀ {W W' : World}, (RdI W (some ⟨b2, o2, none⟩) J ∧ RdV W va L ∧ Below w1.heap.size w1 W ∧ (0 < k → W.cell? ⟨b2, o2 + (k - 1) * 3, none⟩ = some (.int .i64 p))) → Below W.heap.size W W' → (RdI W' (some ⟨b2, o2, none⟩) J ∧ RdV W' va L ∧ Below w1.heap.size w1 W' ∧ (0 < k → W'.cell? ⟨b2, o2 + (k - 1) * 3, none⟩ = some (.int .i64 p))) := fun h hb => ⟨h.1.below hb, h.2.1.below hb, h.2.2.1.trans (hb.mono h.2.2.1.size), fun h0 => kept0 hb (h.2.2.2 h0)⟩
      have hpc' := fun h0 => kept0 ba (hpc h0)
      go_wp2_with fail
      generalize wr.alloc (.cells #[.int .i64 id, .string kd, .slice va L.length vc] 101) = w2 at s0' s1' hv1 hr1 x0 x1 x2 hB1 hb1 hpc' ⊢
      refine wp_region_held_drew (S := (fun W => W.cell? ⟨w.heap.size, 0, none⟩ = some (.slice (some ⟨b2, o2, none⟩) n cap) ∧ W.cell? ⟨w.heap.size, 1, none⟩ = some (.int .i64 nx) ∧ W.cell? ⟨wr.heap.size, 0, none⟩ = some (.int .i64 id) ∧ W.cell? ⟨wr.heap.size, 1, none⟩ = some (.string kd) ∧ W.cell? ⟨wr.heap.size, 2, none⟩ = some (.slice va L.length vc) ∧ (RdI W (some ⟨b2, o2, none⟩) J ∧ RdV W va L ∧ Below w1.heap.size w1 W ∧ (0 < k → W.cell? ⟨b2, o2 + (k - 1) * 3, none⟩ = some (.int .i64 p))))) (by kernel_rfl) ⟨s0', s1', x0, x1, x2, hSF ⟨hr1, hv1, hb1, hpc'⟩ ((Below.refl _ _).drew)⟩ (fun hHeld => ?_)
      refine wpAnyH_take (i := 0) (oi := Oper.mk (some 27) _ _ _ _ _) (v := ?v1) rfl (by kernel_rfl) (by kernel_rfl) (by kernel_rfl) (fun _ _ _ h => h) (Or.inl ⟨by rfl, ?y1⟩) hHeld ?r1
      case y1 => (intro W hSW; obtain ⟨q0, q1, q2, q3, q4, -⟩ := hSW; go_simp; try with_reducible rfl)
      simp only [Act.put, List.setIfInBounds_toArray, List.set_cons_zero, List.set_cons_succ]
      refine wpAnyH_take (i := 1) (oi := Oper.mk (some 28) _ _ _ _ _) (v := ?v2) rfl (by kernel_rfl) (by kernel_rfl) (by kernel_rfl) (fun _ _ _ h => h) (Or.inl ⟨by rfl, ?y2⟩) hHeld ?r2
      case y2 => (intro W hSW; obtain ⟨q0, q1, q2, q3, q4, -⟩ := hSW; go_simp; try with_reducible rfl)
      simp only [Act.put, List.setIfInBounds_toArray, List.set_cons_zero, List.set_cons_succ]
      refine wpAnyH_ready (rs := [2]) (by kernel_rfl) (by simp) (AllReadyH.cons (o := Oper.mk (some 29) _ _ _ _ _) rfl (fun K hK => ?_) AllReadyH.nil)
      go_simp
      refine (specFactOk_any kd va vc L _ HSk.out.1 hHeld.2.2.2.2.2.2.1 HSk.out.2.2 HLk.out).mono ?_
      rintro e w3 ⟨rfl, hb3⟩
      refine hK.out _ _ (keep5P hSF hb3 hHeld) (fun hHeld => ?_)
      clear hK K
      cases hf : factB kd L
      · have HF := hide (HW.out (HNo.out (fun h => by rw [hf] at h; exact absurd h.2.2 (by simp))))
        clear hf
        refine wpAnyH_take (i := 3) (oi := Oper.mk (some 30) _ _ _ _ _) (v := ?v3) rfl (by kernel_rfl) (by kernel_rfl) (by kernel_rfl) (fun _ _ _ h => h) (Or.inl ⟨by rfl, ?y3⟩) hHeld ?r3
        case y3 => (intro W hSW; obtain ⟨q0, q1, q2, q3, q4, -⟩ := hSW; go_simp; try with_reducible rfl)
        simp only [Act.put, List.setIfInBounds_toArray, List.set_cons_zero, List.set_cons_succ]
        refine wpAnyH_take (i := 4) (oi := Oper.mk (some 31) _ _ _ _ _) (v := ?v4) rfl (by kernel_rfl) (by kernel_rfl) (by kernel_rfl) (fun _ _ _ h => h) (Or.inl ⟨by rfl, ?y4⟩) hHeld ?r4
        case y4 => (intro W hSW; obtain ⟨q0, q1, q2, q3, q4, -⟩ := hSW; go_simp; try with_reducible rfl)
        simp only [Act.put, List.setIfInBounds_toArray, List.set_cons_zero, List.set_cons_succ]
        refine wpAnyH_take (i := 5) (oi := Oper.mk (some 32) _ _ _ _ _) (v := undef) rfl (by kernel_rfl) (by kernel_rfl) (by kernel_rfl) (fun _ _ _ h => h) (Or.inr ⟨by rfl, rfl⟩) hHeld ?_
        simp only [Act.put, List.setIfInBounds_toArray, List.set_cons_zero, List.set_cons_succ]
        refine wpAnyH_take (i := 6) (oi := Oper.mk (some 33) _ _ _ _ _) (v := undef) rfl (by kernel_rfl) (by kernel_rfl) (by kernel_rfl) (fun _ _ _ h => h) (Or.inr ⟨by rfl, rfl⟩) hHeld ?_
        simp only [Act.put, List.setIfInBounds_toArray, List.set_cons_zero, List.set_cons_succ]
        refine wpAnyH_take (i := 7) (oi := Oper.mk (some 34) _ _ _ _ _) (v := undef) rfl (by kernel_rfl) (by kernel_rfl) (by kernel_rfl) (fun _ _ _ h => h) (Or.inr ⟨by rfl, rfl⟩) hHeld ?_
        simp only [Act.put, List.setIfInBounds_toArray, List.set_cons_zero, List.set_cons_succ]
        refine wpAnyH_take (i := 8) (oi := Oper.mk (some 35) _ _ _ _ _) (v := ?v5) rfl (by kernel_rfl) (by kernel_rfl) (by kernel_rfl) (fun _ _ _ h => h) (Or.inl ⟨by rfl, ?y5⟩) hHeld ?r5
        case y5 => (intro W hSW; obtain ⟨q0, q1, q2, q3, q4, -⟩ := hSW; go_simp; try with_reducible rfl)
        simp only [Act.put, List.setIfInBounds_toArray, List.set_cons_zero, List.set_cons_succ]
        refine wpAnyH_take (i := 9) (oi := Oper.mk (some 36) _ _ _ _ _) (v := ?v6) rfl (by kernel_rfl) (by kernel_rfl) (by kernel_rfl) (fun _ _ _ h => h) (Or.inl ⟨by rfl, ?y6⟩) hHeld ?r6
        case y6 => (intro W hSW; obtain ⟨q0, q1, q2, q3, q4, -⟩ := hSW; go_simp; try with_reducible rfl)
        simp only [Act.put, List.setIfInBounds_toArray, List.set_cons_zero, List.set_cons_succ]
        refine wpAnyH_take (i := 10) (oi := Oper.mk (some 37) _ _ _ _ _) (v := undef) rfl (by kernel_rfl) (by kernel_rfl) (by kernel_rfl) (fun _ _ _ h => h) (Or.inr ⟨by rfl, rfl⟩) hHeld ?_
        simp only [Act.put, List.setIfInBounds_toArray, List.set_cons_zero, List.set_cons_succ]
        refine wpAnyH_take (i := 11) (oi := Oper.mk (some 38) _ _ _ _ _) (v := undef) rfl (by kernel_rfl) (by kernel_rfl) (by kernel_rfl) (fun _ _ _ h => h) (Or.inr ⟨by rfl, rfl⟩) hHeld ?_
        simp only [Act.put, List.setIfInBounds_toArray, List.set_cons_zero, List.set_cons_succ]
        refine wpAnyH_take (i := 12) (oi := Oper.mk (some 39) _ _ _ _ _) (v := undef) rfl (by kernel_rfl) (by kernel_rfl) (by kernel_rfl) (fun _ _ _ h => h) (Or.inr ⟨by rfl, rfl⟩) hHeld ?_
        simp only [Act.put, List.setIfInBounds_toArray, List.set_cons_zero, List.set_cons_succ]
        refine wpAnyH_take (i := 13) (oi := Oper.mk (some 40) _ _ _ _ _) (v := undef) rfl (by kernel_rfl) (by kernel_rfl) (by kernel_rfl) (fun _ _ _ h => h) (Or.inr ⟨by rfl, rfl⟩) hHeld ?_
        simp only [Act.put, List.setIfInBounds_toArray, List.set_cons_zero, List.set_cons_succ]
        refine wpAnyH_take (i := 14) (oi := Oper.mk (some 41) _ _ _ _ _) (v := undef) rfl (by kernel_rfl) (by kernel_rfl) (by kernel_rfl) (fun _ _ _ h => h) (Or.inr ⟨by rfl, rfl⟩) hHeld ?_
        simp only [Act.put, List.setIfInBounds_toArray, List.set_cons_zero, List.set_cons_succ]
        refine wpAnyH_take (i := 15) (oi := Oper.mk (some 42) _ _ _ _ _) (v := ?v7) rfl (by kernel_rfl) (by kernel_rfl) (by kernel_rfl) (fun _ _ _ h => h) (Or.inl ⟨by rfl, ?y7⟩) hHeld ?r7
        case y7 => (intro W hSW; obtain ⟨q0, q1, q2, q3, q4, -⟩ := hSW; go_simp; try with_reducible rfl)
        simp only [Act.put, List.setIfInBounds_toArray, List.set_cons_zero, List.set_cons_succ]
        refine wpAnyH_take (i := 16) (oi := Oper.mk (some 43) _ _ _ _ _) (v := ?v8) rfl (by kernel_rfl) (by kernel_rfl) (by kernel_rfl) (fun _ _ _ h => h) (Or.inl ⟨by rfl, ?y8⟩) hHeld ?r8
        case y8 => (intro W hSW; obtain ⟨q0, q1, q2, q3, q4, -⟩ := hSW; go_simp; try with_reducible rfl)
        simp only [Act.put, List.setIfInBounds_toArray, List.set_cons_zero, List.set_cons_succ]
        refine wpAnyH_take (i := 17) (oi := Oper.mk (some 44) _ _ _ _ _) (v := undef) rfl (by kernel_rfl) (by kernel_rfl) (by kernel_rfl) (fun _ _ _ h => h) (Or.inr ⟨by rfl, rfl⟩) hHeld ?_
        simp only [Act.put, List.setIfInBounds_toArray, List.set_cons_zero, List.set_cons_succ]
        refine wpAnyH_take (i := 18) (oi := Oper.mk (some 45) _ _ _ _ _) (v := undef) rfl (by kernel_rfl) (by kernel_rfl) (by kernel_rfl) (fun _ _ _ h => h) (Or.inr ⟨by rfl, rfl⟩) hHeld ?_
        simp only [Act.put, List.setIfInBounds_toArray, List.set_cons_zero, List.set_cons_succ]
        refine wpAnyH_take (i := 19) (oi := Oper.mk (some 46) _ _ _ _ _) (v := undef) rfl (by kernel_rfl) (by kernel_rfl) (by kernel_rfl) (fun _ _ _ h => h) (Or.inr ⟨by rfl, rfl⟩) hHeld ?_
        simp only [Act.put, List.setIfInBounds_toArray, List.set_cons_zero, List.set_cons_succ]
        refine wpAnyH_take (i := 20) (oi := Oper.mk (some 47) _ _ _ _ _) (v := undef) rfl (by kernel_rfl) (by kernel_rfl) (by kernel_rfl) (fun _ _ _ h => h) (Or.inr ⟨by rfl, rfl⟩) hHeld ?_
        simp only [Act.put, List.setIfInBounds_toArray, List.set_cons_zero, List.set_cons_succ]
        refine wpAnyH_take (i := 21) (oi := Oper.mk (some 48) _ _ _ _ _) (v := undef) rfl (by kernel_rfl) (by kernel_rfl) (by kernel_rfl) (fun _ _ _ h => h) (Or.inr ⟨by rfl, rfl⟩) hHeld ?_
        simp only [Act.put, List.setIfInBounds_toArray, List.set_cons_zero, List.set_cons_succ]
        refine wpAnyH_take (i := 22) (oi := Oper.mk (some 49) _ _ _ _ _) (v := undef) rfl (by kernel_rfl) (by kernel_rfl) (by kernel_rfl) (fun _ _ _ h => h) (Or.inr ⟨by rfl, rfl⟩) hHeld ?_
        simp only [Act.put, List.setIfInBounds_toArray, List.set_cons_zero, List.set_cons_succ]
        refine wpAnyH_take (i := 23) (oi := Oper.mk (some 50) _ _ _ _ _) (v := undef) rfl (by kernel_rfl) (by kernel_rfl) (by kernel_rfl) (fun _ _ _ h => h) (Or.inr ⟨by rfl, rfl⟩) hHeld ?_
        simp only [Act.put, List.setIfInBounds_toArray, List.set_cons_zero, List.set_cons_succ]
        refine wpAnyH_take (i := 24) (oi := Oper.mk (some 51) _ _ _ _ _) (v := undef) rfl (by kernel_rfl) (by kernel_rfl) (by kernel_rfl) (fun _ _ _ h => h) (Or.inr ⟨by rfl, rfl⟩) hHeld ?_
        simp only [Act.put, List.setIfInBounds_toArray, List.set_cons_zero, List.set_cons_succ]
        refine wpAnyH_take (i := 25) (oi := Oper.mk (some 52) _ _ _ _ _) (v := undef) rfl (by kernel_rfl) (by kernel_rfl) (by kernel_rfl) (fun _ _ _ h => h) (Or.inr ⟨by rfl, rfl⟩) hHeld ?_
        simp only [Act.put, List.setIfInBounds_toArray, List.set_cons_zero, List.set_cons_succ]
        refine wpAnyH_take (i := 26) (oi := Oper.mk (some 53) _ _ _ _ _) (v := undef) rfl (by kernel_rfl) (by kernel_rfl) (by kernel_rfl) (fun _ _ _ h => h) (Or.inr ⟨by rfl, rfl⟩) hHeld ?_
        simp only [Act.put, List.setIfInBounds_toArray, List.set_cons_zero, List.set_cons_succ]
        refine wpAnyH_take (i := 27) (oi := Oper.mk (some 54) _ _ _ _ _) (v := undef) rfl (by kernel_rfl) (by kernel_rfl) (by kernel_rfl) (fun _ _ _ h => h) (Or.inr ⟨by rfl, rfl⟩) hHeld ?_
        simp only [Act.put, List.setIfInBounds_toArray, List.set_cons_zero, List.set_cons_succ]
        refine wpAnyH_take (i := 28) (oi := Oper.mk (some 55) _ _ _ _ _) (v := undef) rfl (by kernel_rfl) (by kernel_rfl) (by kernel_rfl) (fun _ _ _ h => h) (Or.inr ⟨by rfl, rfl⟩) hHeld ?_
        simp only [Act.put, List.setIfInBounds_toArray, List.set_cons_zero, List.set_cons_succ]
        refine wpAnyH_take (i := 29) (oi := Oper.mk (some 56) _ _ _ _ _) (v := undef) rfl (by kernel_rfl) (by kernel_rfl) (by kernel_rfl) (fun _ _ _ h => h) (Or.inr ⟨by rfl, rfl⟩) hHeld ?_
        simp only [Act.put, List.setIfInBounds_toArray, List.set_cons_zero, List.set_cons_succ]
        refine wpAnyH_take (i := 30) (oi := Oper.mk (some 57) _ _ _ _ _) (v := undef) rfl (by kernel_rfl) (by kernel_rfl) (by kernel_rfl) (fun _ _ _ h => h) (Or.inr ⟨by rfl, rfl⟩) hHeld ?_
        simp only [Act.put, List.setIfInBounds_toArray, List.set_cons_zero, List.set_cons_succ]
        refine wpAnyH_take (i := 31) (oi := Oper.mk (some 58) _ _ _ _ _) (v := ?v9) rfl (by kernel_rfl) (by kernel_rfl) (by kernel_rfl) (fun _ _ _ h => h) (Or.inl ⟨by rfl, ?y9⟩) hHeld ?r9
        case y9 => (intro W hSW; obtain ⟨q0, q1, q2, q3, q4, -⟩ := hSW; go_simp; try with_reducible rfl)
        simp only [Act.put, List.setIfInBounds_toArray, List.set_cons_zero, List.set_cons_succ]
        refine wpAnyH_take (i := 32) (oi := Oper.mk (some 59) _ _ _ _ _) (v := ?v10) rfl (by kernel_rfl) (by kernel_rfl) (by kernel_rfl) (fun _ _ _ h => h) (Or.inl ⟨by rfl, ?y10⟩) hHeld ?r10
        case y10 => (intro W hSW; obtain ⟨q0, q1, q2, q3, q4, -⟩ := hSW; go_simp; try with_reducible rfl)
        simp only [Act.put, List.setIfInBounds_toArray, List.set_cons_zero, List.set_cons_succ]
        refine wpAnyH_take (i := 33) (oi := Oper.mk (some 60) _ _ _ _ _) (v := undef) rfl (by kernel_rfl) (by kernel_rfl) (by kernel_rfl) (fun _ _ _ h => h) (Or.inr ⟨by rfl, rfl⟩) hHeld ?_
        simp only [Act.put, List.setIfInBounds_toArray, List.set_cons_zero, List.set_cons_succ]
        refine wpAnyH_take (i := 34) (oi := Oper.mk (some 61) _ _ _ _ _) (v := undef) rfl (by kernel_rfl) (by kernel_rfl) (by kernel_rfl) (fun _ _ _ h => h) (Or.inr ⟨by rfl, rfl⟩) hHeld ?_
        simp only [Act.put, List.setIfInBounds_toArray, List.set_cons_zero, List.set_cons_succ]
        refine wpAnyH_take (i := 35) (oi := Oper.mk (some 62) _ _ _ _ _) (v := undef) rfl (by kernel_rfl) (by kernel_rfl) (by kernel_rfl) (fun _ _ _ h => h) (Or.inr ⟨by rfl, rfl⟩) hHeld ?_
        simp only [Act.put, List.setIfInBounds_toArray, List.set_cons_zero, List.set_cons_succ]
        refine wpAnyH_take (i := 36) (oi := Oper.mk (some 63) _ _ _ _ _) (v := undef) rfl (by kernel_rfl) (by kernel_rfl) (by kernel_rfl) (fun _ _ _ h => h) (Or.inr ⟨by rfl, rfl⟩) hHeld ?_
        simp only [Act.put, List.setIfInBounds_toArray, List.set_cons_zero, List.set_cons_succ]
        refine wpAnyH_take (i := 37) (oi := Oper.mk (some 64) _ _ _ _ _) (v := undef) rfl (by kernel_rfl) (by kernel_rfl) (by kernel_rfl) (fun _ _ _ h => h) (Or.inr ⟨by rfl, rfl⟩) hHeld ?_
        simp only [Act.put, List.setIfInBounds_toArray, List.set_cons_zero, List.set_cons_succ]
        refine wpAnyH_take (i := 38) (oi := Oper.mk (some 65) _ _ _ _ _) (v := undef) rfl (by kernel_rfl) (by kernel_rfl) (by kernel_rfl) (fun _ _ _ h => h) (Or.inr ⟨by rfl, rfl⟩) hHeld ?_
        simp only [Act.put, List.setIfInBounds_toArray, List.set_cons_zero, List.set_cons_succ]
        refine wpAnyH_take (i := 39) (oi := Oper.mk (some 66) _ _ _ _ _) (v := undef) rfl (by kernel_rfl) (by kernel_rfl) (by kernel_rfl) (fun _ _ _ h => h) (Or.inr ⟨by rfl, rfl⟩) hHeld ?_
        simp only [Act.put, List.setIfInBounds_toArray, List.set_cons_zero, List.set_cons_succ]
        refine wpAnyH_take (i := 40) (oi := Oper.mk (some 67) _ _ _ _ _) (v := ?v11) rfl (by kernel_rfl) (by kernel_rfl) (by kernel_rfl) (fun _ _ _ h => h) (Or.inl ⟨by rfl, ?y11⟩) hHeld ?r11
        case y11 => (intro W hSW; obtain ⟨q0, q1, q2, q3, q4, -⟩ := hSW; go_simp; try with_reducible rfl)
        simp only [Act.put, List.setIfInBounds_toArray, List.set_cons_zero, List.set_cons_succ]
        refine wpAnyH_done (by kernel_rfl) ?_ _
        have B3 : Below w.heap.size w w3 := hB1.trans ((below_dr hb3).mono hB1.size)
        go_wp2
        go_ret
        exact ⟨ret_bool HF.out.symm, B3⟩
      · have HFf := hide hf
        clear hf
        refine wpAnyH_take (i := 3) (oi := Oper.mk (some 30) _ _ _ _ _) (v := ?v12) rfl (by kernel_rfl) (by kernel_rfl) (by kernel_rfl) (fun _ _ _ h => h) (Or.inl ⟨by rfl, ?y12⟩) hHeld ?r12
        case y12 => (intro W hSW; obtain ⟨q0, q1, q2, q3, q4, -⟩ := hSW; go_simp; try with_reducible rfl)
        simp only [Act.put, List.setIfInBounds_toArray, List.set_cons_zero, List.set_cons_succ]
        refine wpAnyH_take (i := 4) (oi := Oper.mk (some 31) _ _ _ _ _) (v := ?v13) rfl (by kernel_rfl) (by kernel_rfl) (by kernel_rfl) (fun _ _ _ h => h) (Or.inl ⟨by rfl, ?y13⟩) hHeld ?r13
        case y13 => (intro W hSW; obtain ⟨q0, q1, q2, q3, q4, -⟩ := hSW; go_simp; try with_reducible rfl)
        simp only [Act.put, List.setIfInBounds_toArray, List.set_cons_zero, List.set_cons_succ]
        refine wpAnyH_take (i := 5) (oi := Oper.mk (some 32) _ _ _ _ _) (v := ?v14) rfl (by kernel_rfl) (by kernel_rfl) (by kernel_rfl) (fun _ _ _ h => h) (Or.inl ⟨by rfl, ?y14⟩) hHeld ?r14
        case y14 => (intro W hSW; obtain ⟨q0, q1, q2, q3, q4, -⟩ := hSW; go_simp; try with_reducible rfl)
        simp only [Act.put, List.setIfInBounds_toArray, List.set_cons_zero, List.set_cons_succ]
        refine wpAnyH_take (i := 6) (oi := Oper.mk (some 33) _ _ _ _ _) (v := ?v15) rfl (by kernel_rfl) (by kernel_rfl) (by kernel_rfl) (fun _ _ _ h => h) (Or.inl ⟨by rfl, ?y15⟩) hHeld ?r15
        case y15 => (intro W hSW; obtain ⟨q0, q1, q2, q3, q4, -⟩ := hSW; go_simp; try with_reducible rfl)
        simp only [Act.put, List.setIfInBounds_toArray, List.set_cons_zero, List.set_cons_succ]
        by_cases h1 : id < 1
        · have HF := hide (HW.out (HNo.out (fun h => by omega)))
          refine wpAnyH_take (i := 7) (oi := Oper.mk (some 34) _ _ _ _ _) (v := ?v16) rfl (by kernel_rfl) (by kernel_rfl) (by kernel_rfl) (fun _ _ _ h => h) (Or.inl ⟨by rfl, ?y16⟩) hHeld ?r16
          case y16 => (intro W hSW; obtain ⟨q0, q1, q2, q3, q4, -⟩ := hSW; go_simp; try with_reducible rfl)
          simp only [Act.put, List.setIfInBounds_toArray, List.set_cons_zero, List.set_cons_succ]
          refine wpAnyH_take (i := 8) (oi := Oper.mk (some 35) _ _ _ _ _) (v := ?v17) rfl (by kernel_rfl) (by kernel_rfl) (by kernel_rfl) (fun _ _ _ h => h) (Or.inl ⟨by rfl, ?y17⟩) hHeld ?r17
          case y17 => (intro W hSW; obtain ⟨q0, q1, q2, q3, q4, -⟩ := hSW; go_simp; try with_reducible rfl)
          simp only [Act.put, List.setIfInBounds_toArray, List.set_cons_zero, List.set_cons_succ]
          refine wpAnyH_take (i := 9) (oi := Oper.mk (some 36) _ _ _ _ _) (v := ?v18) rfl (by kernel_rfl) (by kernel_rfl) (by kernel_rfl) (fun _ _ _ h => h) (Or.inl ⟨by rfl, ?y18⟩) hHeld ?r18
          case y18 => (intro W hSW; obtain ⟨q0, q1, q2, q3, q4, -⟩ := hSW; go_simp; try with_reducible rfl)
          simp only [Act.put, List.setIfInBounds_toArray, List.set_cons_zero, List.set_cons_succ]
          refine wpAnyH_take (i := 10) (oi := Oper.mk (some 37) _ _ _ _ _) (v := undef) rfl (by kernel_rfl) (by kernel_rfl) (by kernel_rfl) (fun _ _ _ h => h) (Or.inr ⟨by rfl, rfl⟩) hHeld ?_
          simp only [Act.put, List.setIfInBounds_toArray, List.set_cons_zero, List.set_cons_succ]
          refine wpAnyH_take (i := 11) (oi := Oper.mk (some 38) _ _ _ _ _) (v := undef) rfl (by kernel_rfl) (by kernel_rfl) (by kernel_rfl) (fun _ _ _ h => h) (Or.inr ⟨by rfl, rfl⟩) hHeld ?_
          simp only [Act.put, List.setIfInBounds_toArray, List.set_cons_zero, List.set_cons_succ]
          refine wpAnyH_take (i := 12) (oi := Oper.mk (some 39) _ _ _ _ _) (v := undef) rfl (by kernel_rfl) (by kernel_rfl) (by kernel_rfl) (fun _ _ _ h => h) (Or.inr ⟨by rfl, rfl⟩) hHeld ?_
          simp only [Act.put, List.setIfInBounds_toArray, List.set_cons_zero, List.set_cons_succ]
          refine wpAnyH_take (i := 13) (oi := Oper.mk (some 40) _ _ _ _ _) (v := undef) rfl (by kernel_rfl) (by kernel_rfl) (by kernel_rfl) (fun _ _ _ h => h) (Or.inr ⟨by rfl, rfl⟩) hHeld ?_
          simp only [Act.put, List.setIfInBounds_toArray, List.set_cons_zero, List.set_cons_succ]
          refine wpAnyH_take (i := 14) (oi := Oper.mk (some 41) _ _ _ _ _) (v := undef) rfl (by kernel_rfl) (by kernel_rfl) (by kernel_rfl) (fun _ _ _ h => h) (Or.inr ⟨by rfl, rfl⟩) hHeld ?_
          simp only [Act.put, List.setIfInBounds_toArray, List.set_cons_zero, List.set_cons_succ]
          refine wpAnyH_take (i := 15) (oi := Oper.mk (some 42) _ _ _ _ _) (v := ?v19) rfl (by kernel_rfl) (by kernel_rfl) (by kernel_rfl) (fun _ _ _ h => h) (Or.inl ⟨by rfl, ?y19⟩) hHeld ?r19
          case y19 => (intro W hSW; obtain ⟨q0, q1, q2, q3, q4, -⟩ := hSW; go_simp; try with_reducible rfl)
          simp only [Act.put, List.setIfInBounds_toArray, List.set_cons_zero, List.set_cons_succ]
          refine wpAnyH_take (i := 16) (oi := Oper.mk (some 43) _ _ _ _ _) (v := ?v20) rfl (by kernel_rfl) (by kernel_rfl) (by kernel_rfl) (fun _ _ _ h => h) (Or.inl ⟨by rfl, ?y20⟩) hHeld ?r20
          case y20 => (intro W hSW; obtain ⟨q0, q1, q2, q3, q4, -⟩ := hSW; go_simp; try with_reducible rfl)
          simp only [Act.put, List.setIfInBounds_toArray, List.set_cons_zero, List.set_cons_succ]
          refine wpAnyH_take (i := 17) (oi := Oper.mk (some 44) _ _ _ _ _) (v := undef) rfl (by kernel_rfl) (by kernel_rfl) (by kernel_rfl) (fun _ _ _ h => h) (Or.inr ⟨by rfl, rfl⟩) hHeld ?_
          simp only [Act.put, List.setIfInBounds_toArray, List.set_cons_zero, List.set_cons_succ]
          refine wpAnyH_take (i := 18) (oi := Oper.mk (some 45) _ _ _ _ _) (v := undef) rfl (by kernel_rfl) (by kernel_rfl) (by kernel_rfl) (fun _ _ _ h => h) (Or.inr ⟨by rfl, rfl⟩) hHeld ?_
          simp only [Act.put, List.setIfInBounds_toArray, List.set_cons_zero, List.set_cons_succ]
          refine wpAnyH_take (i := 19) (oi := Oper.mk (some 46) _ _ _ _ _) (v := undef) rfl (by kernel_rfl) (by kernel_rfl) (by kernel_rfl) (fun _ _ _ h => h) (Or.inr ⟨by rfl, rfl⟩) hHeld ?_
          simp only [Act.put, List.setIfInBounds_toArray, List.set_cons_zero, List.set_cons_succ]
          refine wpAnyH_take (i := 20) (oi := Oper.mk (some 47) _ _ _ _ _) (v := undef) rfl (by kernel_rfl) (by kernel_rfl) (by kernel_rfl) (fun _ _ _ h => h) (Or.inr ⟨by rfl, rfl⟩) hHeld ?_
          simp only [Act.put, List.setIfInBounds_toArray, List.set_cons_zero, List.set_cons_succ]
          refine wpAnyH_take (i := 21) (oi := Oper.mk (some 48) _ _ _ _ _) (v := undef) rfl (by kernel_rfl) (by kernel_rfl) (by kernel_rfl) (fun _ _ _ h => h) (Or.inr ⟨by rfl, rfl⟩) hHeld ?_
          simp only [Act.put, List.setIfInBounds_toArray, List.set_cons_zero, List.set_cons_succ]
          refine wpAnyH_take (i := 22) (oi := Oper.mk (some 49) _ _ _ _ _) (v := undef) rfl (by kernel_rfl) (by kernel_rfl) (by kernel_rfl) (fun _ _ _ h => h) (Or.inr ⟨by rfl, rfl⟩) hHeld ?_
          simp only [Act.put, List.setIfInBounds_toArray, List.set_cons_zero, List.set_cons_succ]
          refine wpAnyH_take (i := 23) (oi := Oper.mk (some 50) _ _ _ _ _) (v := undef) rfl (by kernel_rfl) (by kernel_rfl) (by kernel_rfl) (fun _ _ _ h => h) (Or.inr ⟨by rfl, rfl⟩) hHeld ?_
          simp only [Act.put, List.setIfInBounds_toArray, List.set_cons_zero, List.set_cons_succ]
          refine wpAnyH_take (i := 24) (oi := Oper.mk (some 51) _ _ _ _ _) (v := undef) rfl (by kernel_rfl) (by kernel_rfl) (by kernel_rfl) (fun _ _ _ h => h) (Or.inr ⟨by rfl, rfl⟩) hHeld ?_
          simp only [Act.put, List.setIfInBounds_toArray, List.set_cons_zero, List.set_cons_succ]
          refine wpAnyH_take (i := 25) (oi := Oper.mk (some 52) _ _ _ _ _) (v := undef) rfl (by kernel_rfl) (by kernel_rfl) (by kernel_rfl) (fun _ _ _ h => h) (Or.inr ⟨by rfl, rfl⟩) hHeld ?_
          simp only [Act.put, List.setIfInBounds_toArray, List.set_cons_zero, List.set_cons_succ]
          refine wpAnyH_take (i := 26) (oi := Oper.mk (some 53) _ _ _ _ _) (v := undef) rfl (by kernel_rfl) (by kernel_rfl) (by kernel_rfl) (fun _ _ _ h => h) (Or.inr ⟨by rfl, rfl⟩) hHeld ?_
          simp only [Act.put, List.setIfInBounds_toArray, List.set_cons_zero, List.set_cons_succ]
          refine wpAnyH_take (i := 27) (oi := Oper.mk (some 54) _ _ _ _ _) (v := undef) rfl (by kernel_rfl) (by kernel_rfl) (by kernel_rfl) (fun _ _ _ h => h) (Or.inr ⟨by rfl, rfl⟩) hHeld ?_
          simp only [Act.put, List.setIfInBounds_toArray, List.set_cons_zero, List.set_cons_succ]
          refine wpAnyH_take (i := 28) (oi := Oper.mk (some 55) _ _ _ _ _) (v := undef) rfl (by kernel_rfl) (by kernel_rfl) (by kernel_rfl) (fun _ _ _ h => h) (Or.inr ⟨by rfl, rfl⟩) hHeld ?_
          simp only [Act.put, List.setIfInBounds_toArray, List.set_cons_zero, List.set_cons_succ]
          refine wpAnyH_take (i := 29) (oi := Oper.mk (some 56) _ _ _ _ _) (v := undef) rfl (by kernel_rfl) (by kernel_rfl) (by kernel_rfl) (fun _ _ _ h => h) (Or.inr ⟨by rfl, rfl⟩) hHeld ?_
          simp only [Act.put, List.setIfInBounds_toArray, List.set_cons_zero, List.set_cons_succ]
          refine wpAnyH_take (i := 30) (oi := Oper.mk (some 57) _ _ _ _ _) (v := undef) rfl (by kernel_rfl) (by kernel_rfl) (by kernel_rfl) (fun _ _ _ h => h) (Or.inr ⟨by rfl, rfl⟩) hHeld ?_
          simp only [Act.put, List.setIfInBounds_toArray, List.set_cons_zero, List.set_cons_succ]
          refine wpAnyH_take (i := 31) (oi := Oper.mk (some 58) _ _ _ _ _) (v := ?v21) rfl (by kernel_rfl) (by kernel_rfl) (by kernel_rfl) (fun _ _ _ h => h) (Or.inl ⟨by rfl, ?y21⟩) hHeld ?r21
          case y21 => (intro W hSW; obtain ⟨q0, q1, q2, q3, q4, -⟩ := hSW; go_simp; try with_reducible rfl)
          simp only [Act.put, List.setIfInBounds_toArray, List.set_cons_zero, List.set_cons_succ]
          refine wpAnyH_take (i := 32) (oi := Oper.mk (some 59) _ _ _ _ _) (v := ?v22) rfl (by kernel_rfl) (by kernel_rfl) (by kernel_rfl) (fun _ _ _ h => h) (Or.inl ⟨by rfl, ?y22⟩) hHeld ?r22
          case y22 => (intro W hSW; obtain ⟨q0, q1, q2, q3, q4, -⟩ := hSW; go_simp; try with_reducible rfl)
          simp only [Act.put, List.setIfInBounds_toArray, List.set_cons_zero, List.set_cons_succ]
          refine wpAnyH_take (i := 33) (oi := Oper.mk (some 60) _ _ _ _ _) (v := undef) rfl (by kernel_rfl) (by kernel_rfl) (by kernel_rfl) (fun _ _ _ h => h) (Or.inr ⟨by rfl, rfl⟩) hHeld ?_
          simp only [Act.put, List.setIfInBounds_toArray, List.set_cons_zero, List.set_cons_succ]
          refine wpAnyH_take (i := 34) (oi := Oper.mk (some 61) _ _ _ _ _) (v := undef) rfl (by kernel_rfl) (by kernel_rfl) (by kernel_rfl) (fun _ _ _ h => h) (Or.inr ⟨by rfl, rfl⟩) hHeld ?_
          simp only [Act.put, List.setIfInBounds_toArray, List.set_cons_zero, List.set_cons_succ]
          refine wpAnyH_take (i := 35) (oi := Oper.mk (some 62) _ _ _ _ _) (v := undef) rfl (by kernel_rfl) (by kernel_rfl) (by kernel_rfl) (fun _ _ _ h => h) (Or.inr ⟨by rfl, rfl⟩) hHeld ?_
          simp only [Act.put, List.setIfInBounds_toArray, List.set_cons_zero, List.set_cons_succ]
          refine wpAnyH_take (i := 36) (oi := Oper.mk (some 63) _ _ _ _ _) (v := undef) rfl (by kernel_rfl) (by kernel_rfl) (by kernel_rfl) (fun _ _ _ h => h) (Or.inr ⟨by rfl, rfl⟩) hHeld ?_
          simp only [Act.put, List.setIfInBounds_toArray, List.set_cons_zero, List.set_cons_succ]
          refine wpAnyH_take (i := 37) (oi := Oper.mk (some 64) _ _ _ _ _) (v := undef) rfl (by kernel_rfl) (by kernel_rfl) (by kernel_rfl) (fun _ _ _ h => h) (Or.inr ⟨by rfl, rfl⟩) hHeld ?_
          simp only [Act.put, List.setIfInBounds_toArray, List.set_cons_zero, List.set_cons_succ]
          refine wpAnyH_take (i := 38) (oi := Oper.mk (some 65) _ _ _ _ _) (v := undef) rfl (by kernel_rfl) (by kernel_rfl) (by kernel_rfl) (fun _ _ _ h => h) (Or.inr ⟨by rfl, rfl⟩) hHeld ?_
          simp only [Act.put, List.setIfInBounds_toArray, List.set_cons_zero, List.set_cons_succ]
          refine wpAnyH_take (i := 39) (oi := Oper.mk (some 66) _ _ _ _ _) (v := undef) rfl (by kernel_rfl) (by kernel_rfl) (by kernel_rfl) (fun _ _ _ h => h) (Or.inr ⟨by rfl, rfl⟩) hHeld ?_
          simp only [Act.put, List.setIfInBounds_toArray, List.set_cons_zero, List.set_cons_succ]
          refine wpAnyH_take (i := 40) (oi := Oper.mk (some 67) _ _ _ _ _) (v := ?v23) rfl (by kernel_rfl) (by kernel_rfl) (by kernel_rfl) (fun _ _ _ h => h) (Or.inl ⟨by rfl, ?y23⟩) hHeld ?r23
          case y23 => (intro W hSW; obtain ⟨q0, q1, q2, q3, q4, -⟩ := hSW; go_simp; try with_reducible rfl)
          simp only [Act.put, List.setIfInBounds_toArray, List.set_cons_zero, List.set_cons_succ]
          refine wpAnyH_done (by kernel_rfl) ?_ _
          have B3 : Below w.heap.size w w3 := hB1.trans ((below_dr hb3).mono hB1.size)
          go_wp2
          go_ret
          exact ⟨ret_bool HF.out.symm, B3⟩
        · have h1d : decide (id < 1) = false := by simpa using h1
          refine wpAnyH_take (i := 7) (oi := Oper.mk (some 34) _ _ _ _ _) (v := ?v24) rfl (by kernel_rfl) (by kernel_rfl) (by kernel_rfl) (fun _ _ _ h => h) (Or.inl ⟨by rfl, ?y24⟩) hHeld ?r24
          case y24 => (intro W hSW; obtain ⟨q0, q1, q2, q3, q4, -⟩ := hSW; go_simp; try with_reducible rfl)
          simp only [Act.put, List.setIfInBounds_toArray, List.set_cons_zero, List.set_cons_succ]
          refine wpAnyH_take (i := 8) (oi := Oper.mk (some 35) _ _ _ _ _) (v := ?v25) rfl (by kernel_rfl) (by kernel_rfl) (by kernel_rfl) (fun _ _ _ h => h) (Or.inl ⟨by rfl, ?y25⟩) hHeld ?r25
          case y25 => (intro W hSW; obtain ⟨q0, q1, q2, q3, q4, -⟩ := hSW; go_simp; try with_reducible rfl)
          simp only [Act.put, List.setIfInBounds_toArray, List.set_cons_zero, List.set_cons_succ]
          refine wpAnyH_take (i := 9) (oi := Oper.mk (some 36) _ _ _ _ _) (v := ?v26) rfl (by kernel_rfl) (by kernel_rfl) (by kernel_rfl) (fun _ _ _ h => h) (Or.inl ⟨by rfl, ?y26⟩) hHeld ?r26
          case y26 => (intro W hSW; obtain ⟨q0, q1, q2, q3, q4, -⟩ := hSW; go_simp; try with_reducible rfl)
          simp only [Act.put, List.setIfInBounds_toArray, List.set_cons_zero, List.set_cons_succ]
          refine wpAnyH_take (i := 10) (oi := Oper.mk (some 37) _ _ _ _ _) (v := ?v27) rfl (by kernel_rfl) (by kernel_rfl) (by kernel_rfl) (fun _ _ _ h => h) (Or.inl ⟨by rfl, ?y27⟩) hHeld ?r27
          case y27 => (intro W hSW; obtain ⟨q0, q1, q2, q3, q4, -⟩ := hSW; go_simp; try with_reducible rfl)
          simp only [Act.put, List.setIfInBounds_toArray, List.set_cons_zero, List.set_cons_succ]
          refine wpAnyH_take (i := 11) (oi := Oper.mk (some 38) _ _ _ _ _) (v := ?v28) rfl (by kernel_rfl) (by kernel_rfl) (by kernel_rfl) (fun _ _ _ h => h) (Or.inl ⟨by rfl, ?y28⟩) hHeld ?r28
          case y28 => (intro W hSW; obtain ⟨q0, q1, q2, q3, q4, -⟩ := hSW; go_simp; try with_reducible rfl)
          simp only [Act.put, List.setIfInBounds_toArray, List.set_cons_zero, List.set_cons_succ]
          refine wpAnyH_take (i := 12) (oi := Oper.mk (some 39) _ _ _ _ _) (v := ?v29) rfl (by kernel_rfl) (by kernel_rfl) (by kernel_rfl) (fun _ _ _ h => h) (Or.inl ⟨by rfl, ?y29⟩) hHeld ?r29
          case y29 => (intro W hSW; obtain ⟨q0, q1, q2, q3, q4, -⟩ := hSW; go_simp; try with_reducible rfl)
          simp only [Act.put, List.setIfInBounds_toArray, List.set_cons_zero, List.set_cons_succ]
          refine wpAnyH_take (i := 13) (oi := Oper.mk (some 40) _ _ _ _ _) (v := ?v30) rfl (by kernel_rfl) (by kernel_rfl) (by kernel_rfl) (fun _ _ _ h => h) (Or.inl ⟨by rfl, ?y30⟩) hHeld ?r30
          case y30 => (intro W hSW; obtain ⟨q0, q1, q2, q3, q4, -⟩ := hSW; go_simp; try with_reducible rfl)
          simp only [Act.put, List.setIfInBounds_toArray, List.set_cons_zero, List.set_cons_succ]
          by_cases h2 : nx ≤ id
          · have HF := hide (HW.out (HNo.out (fun h => by omega)))
            refine wpAnyH_take (i := 14) (oi := Oper.mk (some 41) _ _ _ _ _) (v := ?v31) rfl (by kernel_rfl) (by kernel_rfl) (by kernel_rfl) (fun _ _ _ h => h) (Or.inl ⟨by rfl, ?y31⟩) hHeld ?r31
            case y31 => (intro W hSW; obtain ⟨q0, q1, q2, q3, q4, -⟩ := hSW; go_simp; try with_reducible rfl)
            simp only [Act.put, List.setIfInBounds_toArray, List.set_cons_zero, List.set_cons_succ]
            refine wpAnyH_take (i := 15) (oi := Oper.mk (some 42) _ _ _ _ _) (v := ?v32) rfl (by kernel_rfl) (by kernel_rfl) (by kernel_rfl) (fun _ _ _ h => h) (Or.inl ⟨by rfl, ?y32⟩) hHeld ?r32
            case y32 => (intro W hSW; obtain ⟨q0, q1, q2, q3, q4, -⟩ := hSW; go_simp; try with_reducible rfl)
            simp only [Act.put, List.setIfInBounds_toArray, List.set_cons_zero, List.set_cons_succ]
            refine wpAnyH_take (i := 16) (oi := Oper.mk (some 43) _ _ _ _ _) (v := ?v33) rfl (by kernel_rfl) (by kernel_rfl) (by kernel_rfl) (fun _ _ _ h => h) (Or.inl ⟨by rfl, ?y33⟩) hHeld ?r33
            case y33 => (intro W hSW; obtain ⟨q0, q1, q2, q3, q4, -⟩ := hSW; go_simp; try with_reducible rfl)
            simp only [Act.put, List.setIfInBounds_toArray, List.set_cons_zero, List.set_cons_succ]
            refine wpAnyH_take (i := 17) (oi := Oper.mk (some 44) _ _ _ _ _) (v := undef) rfl (by kernel_rfl) (by kernel_rfl) (by kernel_rfl) (fun _ _ _ h => h) (Or.inr ⟨by rfl, rfl⟩) hHeld ?_
            simp only [Act.put, List.setIfInBounds_toArray, List.set_cons_zero, List.set_cons_succ]
            refine wpAnyH_take (i := 18) (oi := Oper.mk (some 45) _ _ _ _ _) (v := undef) rfl (by kernel_rfl) (by kernel_rfl) (by kernel_rfl) (fun _ _ _ h => h) (Or.inr ⟨by rfl, rfl⟩) hHeld ?_
            simp only [Act.put, List.setIfInBounds_toArray, List.set_cons_zero, List.set_cons_succ]
            refine wpAnyH_take (i := 19) (oi := Oper.mk (some 46) _ _ _ _ _) (v := undef) rfl (by kernel_rfl) (by kernel_rfl) (by kernel_rfl) (fun _ _ _ h => h) (Or.inr ⟨by rfl, rfl⟩) hHeld ?_
            simp only [Act.put, List.setIfInBounds_toArray, List.set_cons_zero, List.set_cons_succ]
            refine wpAnyH_take (i := 20) (oi := Oper.mk (some 47) _ _ _ _ _) (v := undef) rfl (by kernel_rfl) (by kernel_rfl) (by kernel_rfl) (fun _ _ _ h => h) (Or.inr ⟨by rfl, rfl⟩) hHeld ?_
            simp only [Act.put, List.setIfInBounds_toArray, List.set_cons_zero, List.set_cons_succ]
            refine wpAnyH_take (i := 21) (oi := Oper.mk (some 48) _ _ _ _ _) (v := undef) rfl (by kernel_rfl) (by kernel_rfl) (by kernel_rfl) (fun _ _ _ h => h) (Or.inr ⟨by rfl, rfl⟩) hHeld ?_
            simp only [Act.put, List.setIfInBounds_toArray, List.set_cons_zero, List.set_cons_succ]
            refine wpAnyH_take (i := 22) (oi := Oper.mk (some 49) _ _ _ _ _) (v := undef) rfl (by kernel_rfl) (by kernel_rfl) (by kernel_rfl) (fun _ _ _ h => h) (Or.inr ⟨by rfl, rfl⟩) hHeld ?_
            simp only [Act.put, List.setIfInBounds_toArray, List.set_cons_zero, List.set_cons_succ]
            refine wpAnyH_take (i := 23) (oi := Oper.mk (some 50) _ _ _ _ _) (v := undef) rfl (by kernel_rfl) (by kernel_rfl) (by kernel_rfl) (fun _ _ _ h => h) (Or.inr ⟨by rfl, rfl⟩) hHeld ?_
            simp only [Act.put, List.setIfInBounds_toArray, List.set_cons_zero, List.set_cons_succ]
            refine wpAnyH_take (i := 24) (oi := Oper.mk (some 51) _ _ _ _ _) (v := undef) rfl (by kernel_rfl) (by kernel_rfl) (by kernel_rfl) (fun _ _ _ h => h) (Or.inr ⟨by rfl, rfl⟩) hHeld ?_
            simp only [Act.put, List.setIfInBounds_toArray, List.set_cons_zero, List.set_cons_succ]
            refine wpAnyH_take (i := 25) (oi := Oper.mk (some 52) _ _ _ _ _) (v := undef) rfl (by kernel_rfl) (by kernel_rfl) (by kernel_rfl) (fun _ _ _ h => h) (Or.inr ⟨by rfl, rfl⟩) hHeld ?_
            simp only [Act.put, List.setIfInBounds_toArray, List.set_cons_zero, List.set_cons_succ]
            refine wpAnyH_take (i := 26) (oi := Oper.mk (some 53) _ _ _ _ _) (v := undef) rfl (by kernel_rfl) (by kernel_rfl) (by kernel_rfl) (fun _ _ _ h => h) (Or.inr ⟨by rfl, rfl⟩) hHeld ?_
            simp only [Act.put, List.setIfInBounds_toArray, List.set_cons_zero, List.set_cons_succ]
            refine wpAnyH_take (i := 27) (oi := Oper.mk (some 54) _ _ _ _ _) (v := undef) rfl (by kernel_rfl) (by kernel_rfl) (by kernel_rfl) (fun _ _ _ h => h) (Or.inr ⟨by rfl, rfl⟩) hHeld ?_
            simp only [Act.put, List.setIfInBounds_toArray, List.set_cons_zero, List.set_cons_succ]
            refine wpAnyH_take (i := 28) (oi := Oper.mk (some 55) _ _ _ _ _) (v := undef) rfl (by kernel_rfl) (by kernel_rfl) (by kernel_rfl) (fun _ _ _ h => h) (Or.inr ⟨by rfl, rfl⟩) hHeld ?_
            simp only [Act.put, List.setIfInBounds_toArray, List.set_cons_zero, List.set_cons_succ]
            refine wpAnyH_take (i := 29) (oi := Oper.mk (some 56) _ _ _ _ _) (v := undef) rfl (by kernel_rfl) (by kernel_rfl) (by kernel_rfl) (fun _ _ _ h => h) (Or.inr ⟨by rfl, rfl⟩) hHeld ?_
            simp only [Act.put, List.setIfInBounds_toArray, List.set_cons_zero, List.set_cons_succ]
            refine wpAnyH_take (i := 30) (oi := Oper.mk (some 57) _ _ _ _ _) (v := undef) rfl (by kernel_rfl) (by kernel_rfl) (by kernel_rfl) (fun _ _ _ h => h) (Or.inr ⟨by rfl, rfl⟩) hHeld ?_
            simp only [Act.put, List.setIfInBounds_toArray, List.set_cons_zero, List.set_cons_succ]
            refine wpAnyH_take (i := 31) (oi := Oper.mk (some 58) _ _ _ _ _) (v := ?v34) rfl (by kernel_rfl) (by kernel_rfl) (by kernel_rfl) (fun _ _ _ h => h) (Or.inl ⟨by rfl, ?y34⟩) hHeld ?r34
            case y34 => (intro W hSW; obtain ⟨q0, q1, q2, q3, q4, -⟩ := hSW; go_simp; try with_reducible rfl)
            simp only [Act.put, List.setIfInBounds_toArray, List.set_cons_zero, List.set_cons_succ]
            refine wpAnyH_take (i := 32) (oi := Oper.mk (some 59) _ _ _ _ _) (v := ?v35) rfl (by kernel_rfl) (by kernel_rfl) (by kernel_rfl) (fun _ _ _ h => h) (Or.inl ⟨by rfl, ?y35⟩) hHeld ?r35
            case y35 => (intro W hSW; obtain ⟨q0, q1, q2, q3, q4, -⟩ := hSW; go_simp; try with_reducible rfl)
            simp only [Act.put, List.setIfInBounds_toArray, List.set_cons_zero, List.set_cons_succ]
            refine wpAnyH_take (i := 33) (oi := Oper.mk (some 60) _ _ _ _ _) (v := undef) rfl (by kernel_rfl) (by kernel_rfl) (by kernel_rfl) (fun _ _ _ h => h) (Or.inr ⟨by rfl, rfl⟩) hHeld ?_
            simp only [Act.put, List.setIfInBounds_toArray, List.set_cons_zero, List.set_cons_succ]
            refine wpAnyH_take (i := 34) (oi := Oper.mk (some 61) _ _ _ _ _) (v := undef) rfl (by kernel_rfl) (by kernel_rfl) (by kernel_rfl) (fun _ _ _ h => h) (Or.inr ⟨by rfl, rfl⟩) hHeld ?_
            simp only [Act.put, List.setIfInBounds_toArray, List.set_cons_zero, List.set_cons_succ]
            refine wpAnyH_take (i := 35) (oi := Oper.mk (some 62) _ _ _ _ _) (v := undef) rfl (by kernel_rfl) (by kernel_rfl) (by kernel_rfl) (fun _ _ _ h => h) (Or.inr ⟨by rfl, rfl⟩) hHeld ?_
            simp only [Act.put, List.setIfInBounds_toArray, List.set_cons_zero, List.set_cons_succ]
            refine wpAnyH_take (i := 36) (oi := Oper.mk (some 63) _ _ _ _ _) (v := undef) rfl (by kernel_rfl) (by kernel_rfl) (by kernel_rfl) (fun _ _ _ h => h) (Or.inr ⟨by rfl, rfl⟩) hHeld ?_
            simp only [Act.put, List.setIfInBounds_toArray, List.set_cons_zero, List.set_cons_succ]
            refine wpAnyH_take (i := 37) (oi := Oper.mk (some 64) _ _ _ _ _) (v := undef) rfl (by kernel_rfl) (by kernel_rfl) (by kernel_rfl) (fun _ _ _ h => h) (Or.inr ⟨by rfl, rfl⟩) hHeld ?_
            simp only [Act.put, List.setIfInBounds_toArray, List.set_cons_zero, List.set_cons_succ]
            refine wpAnyH_take (i := 38) (oi := Oper.mk (some 65) _ _ _ _ _) (v := undef) rfl (by kernel_rfl) (by kernel_rfl) (by kernel_rfl) (fun _ _ _ h => h) (Or.inr ⟨by rfl, rfl⟩) hHeld ?_
            simp only [Act.put, List.setIfInBounds_toArray, List.set_cons_zero, List.set_cons_succ]
            refine wpAnyH_take (i := 39) (oi := Oper.mk (some 66) _ _ _ _ _) (v := undef) rfl (by kernel_rfl) (by kernel_rfl) (by kernel_rfl) (fun _ _ _ h => h) (Or.inr ⟨by rfl, rfl⟩) hHeld ?_
            simp only [Act.put, List.setIfInBounds_toArray, List.set_cons_zero, List.set_cons_succ]
            refine wpAnyH_take (i := 40) (oi := Oper.mk (some 67) _ _ _ _ _) (v := ?v36) rfl (by kernel_rfl) (by kernel_rfl) (by kernel_rfl) (fun _ _ _ h => h) (Or.inl ⟨by rfl, ?y36⟩) hHeld ?r36
            case y36 => (intro W hSW; obtain ⟨q0, q1, q2, q3, q4, -⟩ := hSW; go_simp; try with_reducible rfl)
            simp only [Act.put, List.setIfInBounds_toArray, List.set_cons_zero, List.set_cons_succ]
            refine wpAnyH_done (by kernel_rfl) ?_ _
            have B3 : Below w.heap.size w w3 := hB1.trans ((below_dr hb3).mono hB1.size)
            go_wp2
            go_ret
            exact ⟨ret_bool HF.out.symm, B3⟩
          · have h2d : decide (nx ≤ id) = false := by simpa using h2
            refine wpAnyH_take (i := 14) (oi := Oper.mk (some 41) _ _ _ _ _) (v := ?v37) rfl (by kernel_rfl) (by kernel_rfl) (by kernel_rfl) (fun _ _ _ h => h) (Or.inl ⟨by rfl, ?y37⟩) hHeld ?r37
            case y37 => (intro W hSW; obtain ⟨q0, q1, q2, q3, q4, -⟩ := hSW; go_simp; try with_reducible rfl)
            simp only [Act.put, List.setIfInBounds_toArray, List.set_cons_zero, List.set_cons_succ]
            refine wpAnyH_take (i := 15) (oi := Oper.mk (some 42) _ _ _ _ _) (v := ?v38) rfl (by kernel_rfl) (by kernel_rfl) (by kernel_rfl) (fun _ _ _ h => h) (Or.inl ⟨by rfl, ?y38⟩) hHeld ?r38
            case y38 => (intro W hSW; obtain ⟨q0, q1, q2, q3, q4, -⟩ := hSW; go_simp; try with_reducible rfl)
            simp only [Act.put, List.setIfInBounds_toArray, List.set_cons_zero, List.set_cons_succ]
            refine wpAnyH_take (i := 16) (oi := Oper.mk (some 43) _ _ _ _ _) (v := ?v39) rfl (by kernel_rfl) (by kernel_rfl) (by kernel_rfl) (fun _ _ _ h => h) (Or.inl ⟨by rfl, ?y39⟩) hHeld ?r39
            case y39 => (intro W hSW; obtain ⟨q0, q1, q2, q3, q4, -⟩ := hSW; go_simp; try with_reducible rfl)
            simp only [Act.put, List.setIfInBounds_toArray, List.set_cons_zero, List.set_cons_succ]
            rcases Nat.eq_zero_or_pos k with hk0 | hk0
            · subst hk0
              have hp0 := HZ.out rfl
              refine wpAnyH_take (i := 17) (oi := Oper.mk (some 44) _ _ _ _ _) (v := ?v40) rfl (by kernel_rfl) (by kernel_rfl) (by kernel_rfl) (fun _ _ _ h => h) (Or.inl ⟨by rfl, ?y40⟩) hHeld ?r40
              case y40 => (intro W hSW; obtain ⟨q0, q1, q2, q3, q4, -⟩ := hSW; go_simp; try with_reducible rfl)
              simp only [Act.put, List.setIfInBounds_toArray, List.set_cons_zero, List.set_cons_succ]
              refine wpAnyH_take (i := 18) (oi := Oper.mk (some 45) _ _ _ _ _) (v := ?v41) rfl (by kernel_rfl) (by kernel_rfl) (by kernel_rfl) (fun _ _ _ h => h) (Or.inl ⟨by rfl, ?y41⟩) hHeld ?r41
              case y41 => (intro W hSW; obtain ⟨q0, q1, q2, q3, q4, -⟩ := hSW; go_simp; try with_reducible rfl)
              simp only [Act.put, List.setIfInBounds_toArray, List.set_cons_zero, List.set_cons_succ]
              refine wpAnyH_take (i := 19) (oi := Oper.mk (some 46) _ _ _ _ _) (v := ?v42) rfl (by kernel_rfl) (by kernel_rfl) (by kernel_rfl) (fun _ _ _ h => h) (Or.inl ⟨by rfl, ?y42⟩) hHeld ?r42
              case y42 => (intro W hSW; obtain ⟨q0, q1, q2, q3, q4, -⟩ := hSW; go_simp; try with_reducible rfl)
              simp only [Act.put, List.setIfInBounds_toArray, List.set_cons_zero, List.set_cons_succ]
              refine wpAnyH_take (i := 20) (oi := Oper.mk (some 47) _ _ _ _ _) (v := undef) rfl (by kernel_rfl) (by kernel_rfl) (by kernel_rfl) (fun _ _ _ h => h) (Or.inr ⟨by rfl, rfl⟩) hHeld ?_
              simp only [Act.put, List.setIfInBounds_toArray, List.set_cons_zero, List.set_cons_succ]
              refine wpAnyH_take (i := 21) (oi := Oper.mk (some 48) _ _ _ _ _) (v := undef) rfl (by kernel_rfl) (by kernel_rfl) (by kernel_rfl) (fun _ _ _ h => h) (Or.inr ⟨by rfl, rfl⟩) hHeld ?_
              simp only [Act.put, List.setIfInBounds_toArray, List.set_cons_zero, List.set_cons_succ]
              refine wpAnyH_take (i := 22) (oi := Oper.mk (some 49) _ _ _ _ _) (v := undef) rfl (by kernel_rfl) (by kernel_rfl) (by kernel_rfl) (fun _ _ _ h => h) (Or.inr ⟨by rfl, rfl⟩) hHeld ?_
              simp only [Act.put, List.setIfInBounds_toArray, List.set_cons_zero, List.set_cons_succ]
              refine wpAnyH_take (i := 23) (oi := Oper.mk (some 50) _ _ _ _ _) (v := undef) rfl (by kernel_rfl) (by kernel_rfl) (by kernel_rfl) (fun _ _ _ h => h) (Or.inr ⟨by rfl, rfl⟩) hHeld ?_
              simp only [Act.put, List.setIfInBounds_toArray, List.set_cons_zero, List.set_cons_succ]
              refine wpAnyH_take (i := 24) (oi := Oper.mk (some 51) _ _ _ _ _) (v := undef) rfl (by kernel_rfl) (by kernel_rfl) (by kernel_rfl) (fun _ _ _ h => h) (Or.inr ⟨by rfl, rfl⟩) hHeld ?_
              simp only [Act.put, List.setIfInBounds_toArray, List.set_cons_zero, List.set_cons_succ]
              refine wpAnyH_take (i := 25) (oi := Oper.mk (some 52) _ _ _ _ _) (v := undef) rfl (by kernel_rfl) (by kernel_rfl) (by kernel_rfl) (fun _ _ _ h => h) (Or.inr ⟨by rfl, rfl⟩) hHeld ?_
              simp only [Act.put, List.setIfInBounds_toArray, List.set_cons_zero, List.set_cons_succ]
              refine wpAnyH_take (i := 26) (oi := Oper.mk (some 53) _ _ _ _ _) (v := undef) rfl (by kernel_rfl) (by kernel_rfl) (by kernel_rfl) (fun _ _ _ h => h) (Or.inr ⟨by rfl, rfl⟩) hHeld ?_
              simp only [Act.put, List.setIfInBounds_toArray, List.set_cons_zero, List.set_cons_succ]
              refine wpAnyH_take (i := 27) (oi := Oper.mk (some 54) _ _ _ _ _) (v := undef) rfl (by kernel_rfl) (by kernel_rfl) (by kernel_rfl) (fun _ _ _ h => h) (Or.inr ⟨by rfl, rfl⟩) hHeld ?_
              simp only [Act.put, List.setIfInBounds_toArray, List.set_cons_zero, List.set_cons_succ]
              refine wpAnyH_take (i := 28) (oi := Oper.mk (some 55) _ _ _ _ _) (v := undef) rfl (by kernel_rfl) (by kernel_rfl) (by kernel_rfl) (fun _ _ _ h => h) (Or.inr ⟨by rfl, rfl⟩) hHeld ?_
              simp only [Act.put, List.setIfInBounds_toArray, List.set_cons_zero, List.set_cons_succ]
              refine wpAnyH_take (i := 29) (oi := Oper.mk (some 56) _ _ _ _ _) (v := undef) rfl (by kernel_rfl) (by kernel_rfl) (by kernel_rfl) (fun _ _ _ h => h) (Or.inr ⟨by rfl, rfl⟩) hHeld ?_
              simp only [Act.put, List.setIfInBounds_toArray, List.set_cons_zero, List.set_cons_succ]
              refine wpAnyH_take (i := 30) (oi := Oper.mk (some 57) _ _ _ _ _) (v := ?v43) rfl (by kernel_rfl) (by kernel_rfl) (by kernel_rfl) (fun _ _ _ h => h) (Or.inl ⟨by rfl, ?y43⟩) hHeld ?r43
              case y43 => (intro W hSW; obtain ⟨q0, q1, q2, q3, q4, -⟩ := hSW; go_simp; try with_reducible rfl)
              simp only [Act.put, List.setIfInBounds_toArray, List.set_cons_zero, List.set_cons_succ]
              refine wpAnyH_take (i := 31) (oi := Oper.mk (some 58) _ _ _ _ _) (v := ?v44) rfl (by kernel_rfl) (by kernel_rfl) (by kernel_rfl) (fun _ _ _ h => h) (Or.inl ⟨by rfl, ?y44⟩) hHeld ?r44
              case y44 => (intro W hSW; obtain ⟨q0, q1, q2, q3, q4, -⟩ := hSW; go_simp; try with_reducible rfl)
              simp only [Act.put, List.setIfInBounds_toArray, List.set_cons_zero, List.set_cons_succ]
              refine wpAnyH_take (i := 32) (oi := Oper.mk (some 59) _ _ _ _ _) (v := ?v45) rfl (by kernel_rfl) (by kernel_rfl) (by kernel_rfl) (fun _ _ _ h => h) (Or.inl ⟨by rfl, ?y45⟩) hHeld ?r45
              case y45 => (intro W hSW; obtain ⟨q0, q1, q2, q3, q4, -⟩ := hSW; go_simp; try with_reducible rfl)
              simp only [Act.put, List.setIfInBounds_toArray, List.set_cons_zero, List.set_cons_succ]
              refine wpAnyH_take (i := 33) (oi := Oper.mk (some 60) _ _ _ _ _) (v := ?v46) rfl (by kernel_rfl) (by kernel_rfl) (by kernel_rfl) (fun _ _ _ h => h) (Or.inl ⟨by rfl, ?y46⟩) hHeld ?r46
              case y46 => (intro W hSW; obtain ⟨q0, q1, q2, q3, q4, -⟩ := hSW; go_simp; try with_reducible rfl)
              simp only [Act.put, List.setIfInBounds_toArray, List.set_cons_zero, List.set_cons_succ]
              refine wpAnyH_take (i := 34) (oi := Oper.mk (some 61) _ _ _ _ _) (v := ?v47) rfl (by kernel_rfl) (by kernel_rfl) (by kernel_rfl) (fun _ _ _ h => h) (Or.inl ⟨by rfl, ?y47⟩) hHeld ?r47
              case y47 => (intro W hSW; obtain ⟨q0, q1, q2, q3, q4, -⟩ := hSW; go_simp; try with_reducible rfl)
              simp only [Act.put, List.setIfInBounds_toArray, List.set_cons_zero, List.set_cons_succ]
              refine wpAnyH_take (i := 35) (oi := Oper.mk (some 62) _ _ _ _ _) (v := ?v48) rfl (by kernel_rfl) (by kernel_rfl) (by kernel_rfl) (fun _ _ _ h => h) (Or.inl ⟨by rfl, ?y48⟩) hHeld ?r48
              case y48 => (intro W hSW; obtain ⟨q0, q1, q2, q3, q4, -⟩ := hSW; go_simp; try with_reducible rfl)
              simp only [Act.put, List.setIfInBounds_toArray, List.set_cons_zero, List.set_cons_succ]
              refine wpAnyH_take (i := 37) (oi := Oper.mk (some 64) _ _ _ _ _) (v := ?v49) rfl (by kernel_rfl) (by kernel_rfl) (by kernel_rfl) (fun _ _ _ h => h) (Or.inl ⟨by rfl, ?y49⟩) hHeld ?r49
              case y49 => (intro W hSW; obtain ⟨q0, q1, q2, q3, q4, -⟩ := hSW; go_simp; try with_reducible rfl)
              simp only [Act.put, List.setIfInBounds_toArray, List.set_cons_zero, List.set_cons_succ]
              refine wpAnyH_take (i := 38) (oi := Oper.mk (some 65) _ _ _ _ _) (v := ?v50) rfl (by kernel_rfl) (by kernel_rfl) (by kernel_rfl) (fun _ _ _ h => h) (Or.inl ⟨by rfl, ?y50⟩) hHeld ?r50
              case y50 => (intro W hSW; obtain ⟨q0, q1, q2, q3, q4, -⟩ := hSW; go_simp; try with_reducible rfl)
              simp only [Act.put, List.setIfInBounds_toArray, List.set_cons_zero, List.set_cons_succ]
              refine wpAnyH_ready (rs := [36]) (by kernel_rfl) (by simp) (AllReadyH.cons (o := Oper.mk (some 63) _ _ _ _ _) rfl (fun K hK => ?_) AllReadyH.nil)
              go_simp
              refine (specIdOf_any _ va n cap vc nx kd J L _ hHeld.2.2.2.2.2.1 hHeld.2.2.2.2.2.2.1 HJ.out hn HL.out HLk.out).mono ?_
              rw [HR.out]
              rintro e w4 ⟨rfl, hb4⟩
              refine hK.out _ _ (keep5P hSF hb4 hHeld) (fun hHeld => ?_)
              clear hK K
              by_cases hRi : R = id
              · have hRd : (R != id) = false := by simp [hRi]
                refine wpAnyH_take (i := 39) (oi := Oper.mk (some 66) _ _ _ _ _) (v := ?v51) rfl (by kernel_rfl) (by kernel_rfl) (by kernel_rfl) (fun _ _ _ h => h) (Or.inl ⟨by rfl, ?y51⟩) hHeld ?r51
                case y51 => (intro W hSW; obtain ⟨q0, q1, q2, q3, q4, -⟩ := hSW; go_simp; try with_reducible rfl)
                simp only [Act.put, List.setIfInBounds_toArray, List.set_cons_zero, List.set_cons_succ]
                refine wpAnyH_take (i := 40) (oi := Oper.mk (some 67) _ _ _ _ _) (v := ?v52) rfl (by kernel_rfl) (by kernel_rfl) (by kernel_rfl) (fun _ _ _ h => h) (Or.inl ⟨by rfl, ?y52⟩) hHeld ?r52
                case y52 => (intro W hSW; obtain ⟨q0, q1, q2, q3, q4, -⟩ := hSW; go_simp; try with_reducible rfl)
                simp only [Act.put, List.setIfInBounds_toArray, List.set_cons_zero, List.set_cons_succ]
                refine wpAnyH_done (by kernel_rfl) ?_ _
                have hbN := hHeld.2.2.2.2.2.2.2.1
                have HO2 := hide (HOkk.out (by omega) (by omega) HFf.out)
                have HI2 : Hid (idP (J.map It.pl) (iAt J 0).kd (iAt J 0).L = (iAt J 0).id) := by unfold Hid; rw [← HX.out]; exact HR.out.trans hRi
                clear hHeld
                go_wp2
                go_roundw
                case rel => exact ⟨0 + 1, by omega, by go_num, fun j hj => by
                  by_cases hjk : j = 0
                  · rw [hjk]; exact ⟨HO2.out, HI2.out⟩
                  · exact HOk.out j (by omega), hbN⟩
                case measure => simp [intOf]; omega
              · have hRd : (R != id) = true := by simp [hRi]
                have HF := hide (HWi.out hRi)
                refine wpAnyH_take (i := 39) (oi := Oper.mk (some 66) _ _ _ _ _) (v := ?v53) rfl (by kernel_rfl) (by kernel_rfl) (by kernel_rfl) (fun _ _ _ h => h) (Or.inl ⟨by rfl, ?y53⟩) hHeld ?r53
                case y53 => (intro W hSW; obtain ⟨q0, q1, q2, q3, q4, -⟩ := hSW; go_simp; try with_reducible rfl)
                simp only [Act.put, List.setIfInBounds_toArray, List.set_cons_zero, List.set_cons_succ]
                refine wpAnyH_take (i := 40) (oi := Oper.mk (some 67) _ _ _ _ _) (v := ?v54) rfl (by kernel_rfl) (by kernel_rfl) (by kernel_rfl) (fun _ _ _ h => h) (Or.inl ⟨by rfl, ?y54⟩) hHeld ?r54
                case y54 => (intro W hSW; obtain ⟨q0, q1, q2, q3, q4, -⟩ := hSW; go_simp; try with_reducible rfl)
                simp only [Act.put, List.setIfInBounds_toArray, List.set_cons_zero, List.set_cons_succ]
                refine wpAnyH_done (by kernel_rfl) ?_ _
                have B3 : Below w.heap.size w w4 := b0.trans (hHeld.2.2.2.2.2.2.2.1.mono b0.size)
                go_wp2
                go_ret
                exact ⟨ret_bool HF.out.symm, B3⟩
            · obtain ⟨m, rfl⟩ : ∃ m, k = m + 1 := ⟨k - 1, by omega⟩
              have l0 : (0 : Int) ≤ (m : Int) := by omega
              have l1 : (m : Int) < (n : Int) := by omega
              have hwm : IntKind.i64.wrap (m : Int) = (m : Int) := by simp [IntKind.wrap, IntKind.bits, IntKind.signed]; omega
              refine wpAnyH_take (i := 17) (oi := Oper.mk (some 44) _ _ _ _ _) (v := ?v55) rfl (by kernel_rfl) (by kernel_rfl) (by kernel_rfl) (fun _ _ _ h => h) (Or.inl ⟨by rfl, ?y55⟩) hHeld ?r55
              case y55 => (intro W hSW; obtain ⟨q0, q1, q2, q3, q4, -⟩ := hSW; go_simp; try with_reducible rfl)
              simp only [Act.put, List.setIfInBounds_toArray, List.set_cons_zero, List.set_cons_succ]
              refine wpAnyH_take (i := 18) (oi := Oper.mk (some 45) _ _ _ _ _) (v := ?v56) rfl (by kernel_rfl) (by kernel_rfl) (by kernel_rfl) (fun _ _ _ h => h) (Or.inl ⟨by rfl, ?y56⟩) hHeld ?r56
              case y56 => (intro W hSW; obtain ⟨q0, q1, q2, q3, q4, -⟩ := hSW; go_simp; try with_reducible rfl)
              simp only [Act.put, List.setIfInBounds_toArray, List.set_cons_zero, List.set_cons_succ]
              refine wpAnyH_take (i := 19) (oi := Oper.mk (some 46) _ _ _ _ _) (v := ?v57) rfl (by kernel_rfl) (by kernel_rfl) (by kernel_rfl) (fun _ _ _ h => h) (Or.inl ⟨by rfl, ?y57⟩) hHeld ?r57
              case y57 => (intro W hSW; obtain ⟨q0, q1, q2, q3, q4, -⟩ := hSW; go_simp; try with_reducible rfl)
              simp only [Act.put, List.setIfInBounds_toArray, List.set_cons_zero, List.set_cons_succ]
              refine wpAnyH_take (i := 20) (oi := Oper.mk (some 47) _ _ _ _ _) (v := ?v58) rfl (by kernel_rfl) (by kernel_rfl) (by kernel_rfl) (fun _ _ _ h => h) (Or.inl ⟨by rfl, ?y58⟩) hHeld ?r58
              case y58 => (intro W hSW; obtain ⟨q0, q1, q2, q3, q4, -⟩ := hSW; go_simp; try with_reducible rfl)
              simp only [Act.put, List.setIfInBounds_toArray, List.set_cons_zero, List.set_cons_succ]
              refine wpAnyH_take (i := 21) (oi := Oper.mk (some 48) _ _ _ _ _) (v := ?v59) rfl (by kernel_rfl) (by kernel_rfl) (by kernel_rfl) (fun _ _ _ h => h) (Or.inl ⟨by rfl, ?y59⟩) hHeld ?r59
              case y59 => (intro W hSW; obtain ⟨q0, q1, q2, q3, q4, -⟩ := hSW; go_simp; try with_reducible rfl)
              simp only [Act.put, List.setIfInBounds_toArray, List.set_cons_zero, List.set_cons_succ]
              refine wpAnyH_take (i := 22) (oi := Oper.mk (some 49) _ _ _ _ _) (v := ?v60) rfl (by kernel_rfl) (by kernel_rfl) (by kernel_rfl) (fun _ _ _ h => h) (Or.inl ⟨by rfl, ?y60⟩) hHeld ?r60
              case y60 => (intro W hSW; obtain ⟨q0, q1, q2, q3, q4, -⟩ := hSW; go_simp; try with_reducible rfl)
              simp only [Act.put, List.setIfInBounds_toArray, List.set_cons_zero, List.set_cons_succ]
              refine wpAnyH_take (i := 23) (oi := Oper.mk (some 50) _ _ _ _ _) (v := ?v61) rfl (by kernel_rfl) (by kernel_rfl) (by kernel_rfl) (fun _ _ _ h => h) (Or.inl ⟨by rfl, ?y61⟩) hHeld ?r61
              case y61 => (intro W hSW; obtain ⟨q0, q1, q2, q3, q4, -⟩ := hSW; go_simp; try with_reducible rfl)
              simp only [Act.put, List.setIfInBounds_toArray, List.set_cons_zero, List.set_cons_succ]
              refine wpAnyH_take (i := 24) (oi := Oper.mk (some 51) _ _ _ _ _) (v := ?v62) rfl (by kernel_rfl) (by kernel_rfl) (by kernel_rfl) (fun _ _ _ h => h) (Or.inl ⟨by rfl, ?y62⟩) hHeld ?r62
              case y62 => (intro W hSW; obtain ⟨q0, q1, q2, q3, q4, -⟩ := hSW; go_simp; try with_reducible rfl)
              simp only [Act.put, List.setIfInBounds_toArray, List.set_cons_zero, List.set_cons_succ]
              refine wpAnyH_take (i := 25) (oi := Oper.mk (some 52) _ _ _ _ _) (v := ?v63) rfl (by kernel_rfl) (by kernel_rfl) (by kernel_rfl) (fun _ _ _ h => h) (Or.inl ⟨by rfl, ?y63⟩) hHeld ?r63
              case y63 => (intro W hSW; obtain ⟨q0, q1, q2, q3, q4, -⟩ := hSW; go_simp; try with_reducible rfl)
              simp only [Act.put, List.setIfInBounds_toArray, List.set_cons_zero, List.set_cons_succ]
              refine wpAnyH_take (i := 26) (oi := Oper.mk (some 53) _ _ _ _ _) (v := ?v64) rfl (by kernel_rfl) (by kernel_rfl) (by kernel_rfl) (fun _ _ _ h => h) (Or.inl ⟨by rfl, ?y64⟩) hHeld ?r64
              case y64 => (intro W hSW; obtain ⟨q0, q1, q2, q3, q4, -, -, -, q5⟩ := hSW; have q6 := q5 (by omega); simp only [Nat.add_sub_cancel] at q6; go_simp; try with_reducible rfl)
              simp only [Act.put, List.setIfInBounds_toArray, List.set_cons_zero, List.set_cons_succ]
              refine wpAnyH_take (i := 27) (oi := Oper.mk (some 54) _ _ _ _ _) (v := ?v65) rfl (by kernel_rfl) (by kernel_rfl) (by kernel_rfl) (fun _ _ _ h => h) (Or.inl ⟨by rfl, ?y65⟩) hHeld ?r65
              case y65 => (intro W hSW; obtain ⟨q0, q1, q2, q3, q4, -⟩ := hSW; go_simp; try with_reducible rfl)
              simp only [Act.put, List.setIfInBounds_toArray, List.set_cons_zero, List.set_cons_succ]
              refine wpAnyH_take (i := 28) (oi := Oper.mk (some 55) _ _ _ _ _) (v := ?v66) rfl (by kernel_rfl) (by kernel_rfl) (by kernel_rfl) (fun _ _ _ h => h) (Or.inl ⟨by rfl, ?y66⟩) hHeld ?r66
              case y66 => (intro W hSW; obtain ⟨q0, q1, q2, q3, q4, -⟩ := hSW; go_simp; try with_reducible rfl)
              simp only [Act.put, List.setIfInBounds_toArray, List.set_cons_zero, List.set_cons_succ]
              by_cases h3 : id ≤ p
              · have HF := hide (HW.out (HNo.out (fun h => by omega)))
                refine wpAnyH_take (i := 29) (oi := Oper.mk (some 56) _ _ _ _ _) (v := ?v67) rfl (by kernel_rfl) (by kernel_rfl) (by kernel_rfl) (fun _ _ _ h => h) (Or.inl ⟨by rfl, ?y67⟩) hHeld ?r67
                case y67 => (intro W hSW; obtain ⟨q0, q1, q2, q3, q4, -⟩ := hSW; go_simp; try with_reducible rfl)
                simp only [Act.put, List.setIfInBounds_toArray, List.set_cons_zero, List.set_cons_succ]
                refine wpAnyH_take (i := 30) (oi := Oper.mk (some 57) _ _ _ _ _) (v := ?v68) rfl (by kernel_rfl) (by kernel_rfl) (by kernel_rfl) (fun _ _ _ h => h) (Or.inl ⟨by rfl, ?y68⟩) hHeld ?r68
                case y68 => (intro W hSW; obtain ⟨q0, q1, q2, q3, q4, -⟩ := hSW; go_simp; try with_reducible rfl)
                simp only [Act.put, List.setIfInBounds_toArray, List.set_cons_zero, List.set_cons_succ]
                refine wpAnyH_take (i := 31) (oi := Oper.mk (some 58) _ _ _ _ _) (v := ?v69) rfl (by kernel_rfl) (by kernel_rfl) (by kernel_rfl) (fun _ _ _ h => h) (Or.inl ⟨by rfl, ?y69⟩) hHeld ?r69
                case y69 => (intro W hSW; obtain ⟨q0, q1, q2, q3, q4, -⟩ := hSW; go_simp; try with_reducible rfl)
                simp only [Act.put, List.setIfInBounds_toArray, List.set_cons_zero, List.set_cons_succ]
                refine wpAnyH_take (i := 32) (oi := Oper.mk (some 59) _ _ _ _ _) (v := ?v70) rfl (by kernel_rfl) (by kernel_rfl) (by kernel_rfl) (fun _ _ _ h => h) (Or.inl ⟨by rfl, ?y70⟩) hHeld ?r70
                case y70 => (intro W hSW; obtain ⟨q0, q1, q2, q3, q4, -⟩ := hSW; go_simp; try with_reducible rfl)
                simp only [Act.put, List.setIfInBounds_toArray, List.set_cons_zero, List.set_cons_succ]
                refine wpAnyH_take (i := 33) (oi := Oper.mk (some 60) _ _ _ _ _) (v := undef) rfl (by kernel_rfl) (by kernel_rfl) (by kernel_rfl) (fun _ _ _ h => h) (Or.inr ⟨by rfl, rfl⟩) hHeld ?_
                simp only [Act.put, List.setIfInBounds_toArray, List.set_cons_zero, List.set_cons_succ]
                refine wpAnyH_take (i := 34) (oi := Oper.mk (some 61) _ _ _ _ _) (v := undef) rfl (by kernel_rfl) (by kernel_rfl) (by kernel_rfl) (fun _ _ _ h => h) (Or.inr ⟨by rfl, rfl⟩) hHeld ?_
                simp only [Act.put, List.setIfInBounds_toArray, List.set_cons_zero, List.set_cons_succ]
                refine wpAnyH_take (i := 35) (oi := Oper.mk (some 62) _ _ _ _ _) (v := undef) rfl (by kernel_rfl) (by kernel_rfl) (by kernel_rfl) (fun _ _ _ h => h) (Or.inr ⟨by rfl, rfl⟩) hHeld ?_
                simp only [Act.put, List.setIfInBounds_toArray, List.set_cons_zero, List.set_cons_succ]
                refine wpAnyH_take (i := 36) (oi := Oper.mk (some 63) _ _ _ _ _) (v := undef) rfl (by kernel_rfl) (by kernel_rfl) (by kernel_rfl) (fun _ _ _ h => h) (Or.inr ⟨by rfl, rfl⟩) hHeld ?_
                simp only [Act.put, List.setIfInBounds_toArray, List.set_cons_zero, List.set_cons_succ]
                refine wpAnyH_take (i := 37) (oi := Oper.mk (some 64) _ _ _ _ _) (v := undef) rfl (by kernel_rfl) (by kernel_rfl) (by kernel_rfl) (fun _ _ _ h => h) (Or.inr ⟨by rfl, rfl⟩) hHeld ?_
                simp only [Act.put, List.setIfInBounds_toArray, List.set_cons_zero, List.set_cons_succ]
                refine wpAnyH_take (i := 38) (oi := Oper.mk (some 65) _ _ _ _ _) (v := undef) rfl (by kernel_rfl) (by kernel_rfl) (by kernel_rfl) (fun _ _ _ h => h) (Or.inr ⟨by rfl, rfl⟩) hHeld ?_
                simp only [Act.put, List.setIfInBounds_toArray, List.set_cons_zero, List.set_cons_succ]
                refine wpAnyH_take (i := 39) (oi := Oper.mk (some 66) _ _ _ _ _) (v := undef) rfl (by kernel_rfl) (by kernel_rfl) (by kernel_rfl) (fun _ _ _ h => h) (Or.inr ⟨by rfl, rfl⟩) hHeld ?_
                simp only [Act.put, List.setIfInBounds_toArray, List.set_cons_zero, List.set_cons_succ]
                refine wpAnyH_take (i := 40) (oi := Oper.mk (some 67) _ _ _ _ _) (v := ?v71) rfl (by kernel_rfl) (by kernel_rfl) (by kernel_rfl) (fun _ _ _ h => h) (Or.inl ⟨by rfl, ?y71⟩) hHeld ?r71
                case y71 => (intro W hSW; obtain ⟨q0, q1, q2, q3, q4, -⟩ := hSW; go_simp; try with_reducible rfl)
                simp only [Act.put, List.setIfInBounds_toArray, List.set_cons_zero, List.set_cons_succ]
                refine wpAnyH_done (by kernel_rfl) ?_ _
                have B3 : Below w.heap.size w w3 := hB1.trans ((below_dr hb3).mono hB1.size)
                go_wp2
                go_ret
                exact ⟨ret_bool HF.out.symm, B3⟩
              · have h3d : decide (id ≤ p) = false := by simpa using h3
                refine wpAnyH_take (i := 29) (oi := Oper.mk (some 56) _ _ _ _ _) (v := ?v72) rfl (by kernel_rfl) (by kernel_rfl) (by kernel_rfl) (fun _ _ _ h => h) (Or.inl ⟨by rfl, ?y72⟩) hHeld ?r72
                case y72 => (intro W hSW; obtain ⟨q0, q1, q2, q3, q4, -⟩ := hSW; go_simp; try with_reducible rfl)
                simp only [Act.put, List.setIfInBounds_toArray, List.set_cons_zero, List.set_cons_succ]
                refine wpAnyH_take (i := 30) (oi := Oper.mk (some 57) _ _ _ _ _) (v := ?v73) rfl (by kernel_rfl) (by kernel_rfl) (by kernel_rfl) (fun _ _ _ h => h) (Or.inl ⟨by rfl, ?y73⟩) hHeld ?r73
                case y73 => (intro W hSW; obtain ⟨q0, q1, q2, q3, q4, -⟩ := hSW; go_simp; try with_reducible rfl)
                simp only [Act.put, List.setIfInBounds_toArray, List.set_cons_zero, List.set_cons_succ]
                refine wpAnyH_take (i := 31) (oi := Oper.mk (some 58) _ _ _ _ _) (v := ?v74) rfl (by kernel_rfl) (by kernel_rfl) (by kernel_rfl) (fun _ _ _ h => h) (Or.inl ⟨by rfl, ?y74⟩) hHeld ?r74
                case y74 => (intro W hSW; obtain ⟨q0, q1, q2, q3, q4, -⟩ := hSW; go_simp; try with_reducible rfl)
                simp only [Act.put, List.setIfInBounds_toArray, List.set_cons_zero, List.set_cons_succ]
                refine wpAnyH_take (i := 32) (oi := Oper.mk (some 59) _ _ _ _ _) (v := ?v75) rfl (by kernel_rfl) (by kernel_rfl) (by kernel_rfl) (fun _ _ _ h => h) (Or.inl ⟨by rfl, ?y75⟩) hHeld ?r75
                case y75 => (intro W hSW; obtain ⟨q0, q1, q2, q3, q4, -⟩ := hSW; go_simp; try with_reducible rfl)
                simp only [Act.put, List.setIfInBounds_toArray, List.set_cons_zero, List.set_cons_succ]
                refine wpAnyH_take (i := 33) (oi := Oper.mk (some 60) _ _ _ _ _) (v := ?v76) rfl (by kernel_rfl) (by kernel_rfl) (by kernel_rfl) (fun _ _ _ h => h) (Or.inl ⟨by rfl, ?y76⟩) hHeld ?r76
                case y76 => (intro W hSW; obtain ⟨q0, q1, q2, q3, q4, -⟩ := hSW; go_simp; try with_reducible rfl)
                simp only [Act.put, List.setIfInBounds_toArray, List.set_cons_zero, List.set_cons_succ]
                refine wpAnyH_take (i := 34) (oi := Oper.mk (some 61) _ _ _ _ _) (v := ?v77) rfl (by kernel_rfl) (by kernel_rfl) (by kernel_rfl) (fun _ _ _ h => h) (Or.inl ⟨by rfl, ?y77⟩) hHeld ?r77
                case y77 => (intro W hSW; obtain ⟨q0, q1, q2, q3, q4, -⟩ := hSW; go_simp; try with_reducible rfl)
                simp only [Act.put, List.setIfInBounds_toArray, List.set_cons_zero, List.set_cons_succ]
                refine wpAnyH_take (i := 35) (oi := Oper.mk (some 62) _ _ _ _ _) (v := ?v78) rfl (by kernel_rfl) (by kernel_rfl) (by kernel_rfl) (fun _ _ _ h => h) (Or.inl ⟨by rfl, ?y78⟩) hHeld ?r78
                case y78 => (intro W hSW; obtain ⟨q0, q1, q2, q3, q4, -⟩ := hSW; go_simp; try with_reducible rfl)
                simp only [Act.put, List.setIfInBounds_toArray, List.set_cons_zero, List.set_cons_succ]
                refine wpAnyH_take (i := 37) (oi := Oper.mk (some 64) _ _ _ _ _) (v := ?v79) rfl (by kernel_rfl) (by kernel_rfl) (by kernel_rfl) (fun _ _ _ h => h) (Or.inl ⟨by rfl, ?y79⟩) hHeld ?r79
                case y79 => (intro W hSW; obtain ⟨q0, q1, q2, q3, q4, -⟩ := hSW; go_simp; try with_reducible rfl)
                simp only [Act.put, List.setIfInBounds_toArray, List.set_cons_zero, List.set_cons_succ]
                refine wpAnyH_take (i := 38) (oi := Oper.mk (some 65) _ _ _ _ _) (v := ?v80) rfl (by kernel_rfl) (by kernel_rfl) (by kernel_rfl) (fun _ _ _ h => h) (Or.inl ⟨by rfl, ?y80⟩) hHeld ?r80
                case y80 => (intro W hSW; obtain ⟨q0, q1, q2, q3, q4, -⟩ := hSW; go_simp; try with_reducible rfl)
                simp only [Act.put, List.setIfInBounds_toArray, List.set_cons_zero, List.set_cons_succ]
                refine wpAnyH_ready (rs := [36]) (by kernel_rfl) (by simp) (AllReadyH.cons (o := Oper.mk (some 63) _ _ _ _ _) rfl (fun K hK => ?_) AllReadyH.nil)
                go_simp
                refine (specIdOf_any _ va n cap vc nx kd J L _ hHeld.2.2.2.2.2.1 hHeld.2.2.2.2.2.2.1 HJ.out hn HL.out HLk.out).mono ?_
                rw [HR.out]
                rintro e w4 ⟨rfl, hb4⟩
                refine hK.out _ _ (keep5P hSF hb4 hHeld) (fun hHeld => ?_)
                clear hK K
                by_cases hRi : R = id
                · have hRd : (R != id) = false := by simp [hRi]
                  refine wpAnyH_take (i := 39) (oi := Oper.mk (some 66) _ _ _ _ _) (v := ?v81) rfl (by kernel_rfl) (by kernel_rfl) (by kernel_rfl) (fun _ _ _ h => h) (Or.inl ⟨by rfl, ?y81⟩) hHeld ?r81
                  case y81 => (intro W hSW; obtain ⟨q0, q1, q2, q3, q4, -⟩ := hSW; go_simp; try with_reducible rfl)
                  simp only [Act.put, List.setIfInBounds_toArray, List.set_cons_zero, List.set_cons_succ]
                  refine wpAnyH_take (i := 40) (oi := Oper.mk (some 67) _ _ _ _ _) (v := ?v82) rfl (by kernel_rfl) (by kernel_rfl) (by kernel_rfl) (fun _ _ _ h => h) (Or.inl ⟨by rfl, ?y82⟩) hHeld ?r82
                  case y82 => (intro W hSW; obtain ⟨q0, q1, q2, q3, q4, -⟩ := hSW; go_simp; try with_reducible rfl)
                  simp only [Act.put, List.setIfInBounds_toArray, List.set_cons_zero, List.set_cons_succ]
                  refine wpAnyH_done (by kernel_rfl) ?_ _
                  have hbN := hHeld.2.2.2.2.2.2.2.1
                  have HO2 := hide (HOkk.out (by omega) (by omega) HFf.out)
                  have HI2 : Hid (idP (J.map It.pl) (iAt J (m + 1)).kd (iAt J (m + 1)).L = (iAt J (m + 1)).id) := by unfold Hid; rw [← HX.out]; exact HR.out.trans hRi
                  clear hHeld
                  go_wp2
                  go_roundw
                  case rel => exact ⟨(m + 1) + 1, by omega, by go_num, fun j hj => by
                    by_cases hjk : j = (m + 1)
                    · rw [hjk]; exact ⟨HO2.out, HI2.out⟩
                    · exact HOk.out j (by omega), hbN⟩
                  case measure => simp [intOf]; omega
                · have hRd : (R != id) = true := by simp [hRi]
                  have HF := hide (HWi.out hRi)
                  refine wpAnyH_take (i := 39) (oi := Oper.mk (some 66) _ _ _ _ _) (v := ?v83) rfl (by kernel_rfl) (by kernel_rfl) (by kernel_rfl) (fun _ _ _ h => h) (Or.inl ⟨by rfl, ?y83⟩) hHeld ?r83
                  case y83 => (intro W hSW; obtain ⟨q0, q1, q2, q3, q4, -⟩ := hSW; go_simp; try with_reducible rfl)
                  simp only [Act.put, List.setIfInBounds_toArray, List.set_cons_zero, List.set_cons_succ]
                  refine wpAnyH_take (i := 40) (oi := Oper.mk (some 67) _ _ _ _ _) (v := ?v84) rfl (by kernel_rfl) (by kernel_rfl) (by kernel_rfl) (fun _ _ _ h => h) (Or.inl ⟨by rfl, ?y84⟩) hHeld ?r84
                  case y84 => (intro W hSW; obtain ⟨q0, q1, q2, q3, q4, -⟩ := hSW; go_simp; try with_reducible rfl)
                  simp only [Act.put, List.setIfInBounds_toArray, List.set_cons_zero, List.set_cons_succ]
                  refine wpAnyH_done (by kernel_rfl) ?_ _
                  have B3 : Below w.heap.size w w4 := b0.trans (hHeld.2.2.2.2.2.2.2.1.mono b0.size)
                  go_wp2
                  go_ret
                  exact ⟨ret_bool HF.out.symm, B3⟩
    · have HR : Hid (storeB nx J = true) := right_of H0.out (fun j hj => (HOk.out j (by rw [HJ.out] at hj; omega)).1) (fun j hj => (HOk.out j (by rw [HJ.out] at hj; omega)).2)
      go_wp2
      go_ret
      exact ⟨ret_bool HR.out.symm, hB⟩
end Go.Proofs.YtbellpalomiokacDoor
/-
  What the model's text of a number is: itoa of the number; nothing that was there has turned.
-/
namespace Go.Proofs.YtbellpalomiokacDoor
open Go.RowKit
set_option linter.unusedVariables false

theorem conv_one (q : Nat) (c : UInt8) (d : Int) (hd : d = (c.toNat : Int)) (W : World) (h : W.cell? ⟨q, 0, none⟩ = some (.int .u8 d)) :
    (convert 44 9 (.slice (some ⟨q, 0, none⟩) 1 1)).run Tryd.prog W = .ok (.string ⟨#[c]⟩) W := by
  subst hd
  have := run_convert_bytes_back (P := Tryd.prog) W 44 9 5 ⟨q, 0, none⟩ 1 [c] Tryd.underlying44 Tryd.underlying5 Tryd.underlying9 (fun j hj => by
    obtain rfl : j = 0 := by simpa using hj
    rw [Addr.add_lit, Nat.add_zero, h]
    simp)
  simpa using this
theorem digit_byte {d : Nat} (h : d < 10) : ∃ c : UInt8, 48 + (d : Int) = (c.toNat : Int) ∧ UInt8.ofNat (48 + d) = c := ⟨_, by simp; omega, rfl⟩
theorem dec_snoc {u : Nat} (h : ¬ u < 10) : (⟨(Lib.decDigits (u / 10)).toArray⟩ : ByteArray) ++ ⟨#[UInt8.ofNat (48 + u % 10)]⟩ = ⟨(Lib.decDigits u).toArray⟩ := by
  rw [show Lib.decDigits u = Lib.decDigits (u / 10) ++ [UInt8.ofNat (48 + u % 10)] by rw [Lib.decDigits, dif_neg h]]
  apply ByteArray.ext
  rw [ByteArray.data_append]
  simp

theorem dec_size {u : Nat} (h : u ≤ 1000000000) : (⟨(Lib.decDigits u).toArray⟩ : ByteArray).size ≤ 10 := by
  have h1 := Lib.decDigits_length u
  have h2 := nDigits_10 u h
  show (Lib.decDigits u).toArray.size ≤ 10
  simp; omega

theorem below_d {w w' : World} (hb : Below w.drew.heap.size w.drew w') : Below w.heap.size w w' := ((Below.refl w.heap.size w).drew).trans hb
theorem below_da {w w' : World} (hb : Below w.drew.heap.size w.drew w') (o : Obj) : Below w.heap.size w (w'.alloc o) := (below_d hb).alloc (below_d hb).size _

set_option maxRecDepth 100000 in
set_option maxHeartbeats 1600000 in
theorem l2Num_pos (u : Nat) : ∀ (x : Int) (w : World), x = (u : Int) → u ≤ 1000000000 →
    Calls Tryd.prog 135 #[.int .i64 x] w fun e w' => ∃ s, e = .returned (.string s) ∧ s.size ≤ 10 ∧ Hid (s = ⟨(Lib.decDigits u).toArray⟩) ∧ Below w.heap.size w w' := by
  induction u using Nat.strongRecOn with
  | _ u ih =>
    intro x w hx hu
    subst hx
    have HZ := hide (dec_size hu)
    by_cases h : u < 10
    · obtain ⟨c, hc, hb⟩ := digit_byte h
      have HD : Hid (Lib.decDigits u = [c]) := by unfold Hid; rw [Lib.decDigits_one h, hb]
      have hconv := conv_one w.heap.size c _ hc (w.alloc (.cells #[.int .u8 (48 + (u : Int))] 5)) (by simp)
      have hn0 : ¬ ((u : Int) < 0) := by omega
      have hn1 : (u : Int) < 10 := by omega
      clear ih hc hb
      go_enter Tryd.func135, Tryd.ntmps135
      go_wp2
      go_ret
      exact ⟨⟨#[c]⟩, rfl, show (1 : Nat) ≤ 10 by omega, by unfold Hid; rw [HD.out], by go_grown⟩
    · obtain ⟨c, hc, hb⟩ := digit_byte (show u % 10 < 10 by omega)
      have HD := hide (dec_snoc h)
      rw [hb] at HD
      have HI := hide (fun (x : Int) (w : World) (hx : x = ((u / 10 : Nat) : Int)) => ih (u / 10) (by omega) x w hx (by omega))
      clear ih
      have hn0 : ¬ ((u : Int) < 0) := by omega
      have hn1 : ¬ ((u : Int) < 10) := by omega
      have hv : IntKind.u8.wrap (IntKind.i64.wrap (48 + (u : Int).tmod 10)) = (c.toNat : Int) := by rw [Int.tmod_eq_emod_of_nonneg (by omega), IntKind.wrap_i64, IntKind.wrap_u8]; omega
      have hconv := fun q W => conv_one q c _ hv W
      have hc1 : (ByteArray.mk #[c]).size = 1 := rfl
      clear hv hc hb
      go_enter Tryd.func135, Tryd.ntmps135
      go_wp2_with fail
      go_region_with (go_at_call 135; refine (HI.out _ _ ?_).mono ?_; (first | omega | (rw [IntKind.wrap_i64]; omega)); rintro e w' ⟨s, rfl, hs, HS, hb⟩; obtain ⟨hc, hf⟩ := bcell hb)
      all_goals go_wp2
      all_goals go_ret
      all_goals refine ⟨s ++ ⟨#[c]⟩, rfl, by rw [HS.out, HD.out]; exact HZ.out, by unfold Hid; rw [HS.out]; exact HD.out, ?_⟩
      all_goals first | (with_reducible exact below_box hb) | (with_reducible exact below_da hb _) | (with_reducible exact below_d hb)

set_option maxHeartbeats 1600000 in
theorem l2Num_any (n : Int) (w : World) (h : -1000000000 ≤ n) (h' : n ≤ 1000000000) :
    Calls Tryd.prog 135 #[.int .i64 n] w fun e w' => ∃ s, e = .returned (.string s) ∧ s.size ≤ 11 ∧ Hid (s = ⟨(Lib.itoa n).toArray⟩) ∧ Below w.heap.size w w' := by
  by_cases hn : n < 0
  · have HI := hide (itoa_neg hn)
    go_enter Tryd.func135, Tryd.ntmps135
    go_wp2_with fail
    refine (l2Num_pos n.natAbs _ _ (by omega) (by omega)).mono ?_
    rintro e w1 ⟨s, rfl, hs, HS, hb⟩
    have hc1 : (ByteArray.mk #[45]).size = 1 := rfl
    have HT : Hid (⟨#[45]⟩ ++ s = ⟨(Lib.itoa n).toArray⟩) := by
      unfold Hid
      rw [HS.out, HI.out]
      apply ByteArray.ext
      rw [ByteArray.data_append]
      simp
    have HZ : Hid ((⟨#[45]⟩ ++ s : ByteArray).size ≤ 11) := by
      unfold Hid
      rw [ByteArray.size_append, hc1]; omega
    go_wp2
    go_ret
    exact ⟨⟨#[45]⟩ ++ s, rfl, HZ.out, HT, hb⟩
  · have HI := hide (itoa_pos hn)
    exact (l2Num_pos n.toNat n w (by omega) (by omega)).mono fun e w' ⟨s, h1, h2, h3, h4⟩ => ⟨s, h1, by omega, by unfold Hid; rw [h3.out, HI.out], h4⟩
end Go.Proofs.YtbellpalomiokacDoor
/-
  The library's table of powers of ten.
-/
namespace Go.Proofs.YtbellpalomiokacDoor
open Go.RowKit
set_option linter.unusedVariables false

/-- the library's table of powers of ten reads as its initialiser lays it -/
def Tab (w : World) : Prop := Lib.TabIs Tryd.prog w "internal/strconv.uint64pow10" .u64 Lib.pow10Tab
theorem gTab : ∃ g, Tryd.prog.globalNamed "internal/strconv.uint64pow10" = some g := Option.isSome_iff_exists.1 (by kernel_rfl)
theorem Tab.later {w w' : World} {B : Nat} (h : Tab w) (hb : Below B w w') (hB : w.heap.size ≤ B) : Tab w' := by
  obtain ⟨g, hg⟩ := gTab
  exact Joins.tab_stays hg h hb hB
end Go.Proofs.YtbellpalomiokacDoor
/-
  What the texts of values are, the tested one and the model's alike: textV of the value; nothing that was there has turned. (The tested one reads the library's table of powers of ten.)
-/
namespace Go.Proofs.YtbellpalomiokacDoor
open Go.RowKit
set_option linter.unusedVariables false

def textV (K N : Int) (S : ByteArray) : ByteArray :=
  if valB K N S then (if K = 1 then ⟨(Lib.itoa N).toArray⟩ else ⟨#[39]⟩ ++ S ++ ⟨#[39]⟩) else ⟨#[]⟩
theorem textV_num {N : Int} {S : ByteArray} (h : valB 1 N S = true) : textV 1 N S = ⟨(Lib.itoa N).toArray⟩ := by simp [textV, h]
theorem textV_text {K N : Int} {S : ByteArray} (h : valB K N S = true) (hk : K ≠ 1) : textV K N S = ⟨#[39]⟩ ++ S ++ ⟨#[39]⟩ := by simp [textV, h, hk]
theorem textV_no {K N : Int} {S : ByteArray} (h : valB K N S = false) : textV K N S = ⟨#[]⟩ := by simp [textV, h]
theorem ta_num_num (n : Int) (w : World) : (Instr.typeAssert (.iface 166 (.int .i64 n)) 132 166 true).run Tryd.prog w = .ok (.tuple #[.int .i64 n, .bool true]) w := by kernel_rfl
theorem ta_nil_num (w : World) : (Instr.typeAssert .nilIface 132 166 true).run Tryd.prog w = .ok (.tuple #[.int .i64 0, .bool false]) w := by kernel_rfl
theorem ta_text_num (s : ByteArray) (w : World) : (Instr.typeAssert (.iface 167 (.string s)) 132 166 true).run Tryd.prog w = .ok (.tuple #[.int .i64 0, .bool false]) w := by kernel_rfl
theorem ta_nil_text (w : World) : (Instr.typeAssert .nilIface 132 167 true).run Tryd.prog w = .ok (.tuple #[.string ⟨#[]⟩, .bool false]) w := by kernel_rfl
theorem ta_text_text (s : ByteArray) (w : World) : (Instr.typeAssert (.iface 167 (.string s)) 132 167 true).run Tryd.prog w = .ok (.tuple #[.string s, .bool true]) w := by kernel_rfl

theorem valB_texts {K N : Int} {S : ByteArray} (h : valB K N S = true) (hk : K ≠ 1) : S.size ≤ 20 := by
  by_cases h2 : K = 2
  · subst h2
    rw [valB_text] at h
    exact textB_le (by simp at h; exact h.1)
  · rw [valB_none N S hk h2] at h; cases h

set_option maxHeartbeats 1600000 in
theorem textOfSpoken_any (K N : Int) (S : ByteArray) (w : World) (ht : Tab w) :
    Calls Tryd.prog 97 #[spokV K N S] w fun e w' => e = .returned (.string (textV K N S)) ∧ Below w.heap.size w w' := by
  have t1 := ta_num_num
  have t2 := ta_nil_num
  have t3 := ta_text_num
  have t4 := ta_nil_text
  have t5 := ta_text_text
  cases hv : valB K N S
  · rw [spokV_no hv, textV_no hv]
    go_enter Tryd.func97, Tryd.ntmps97
    go_wp2
    go_ret
    exact ⟨rfl, Below.refl _ _⟩
  · by_cases hK : K = 1
    · subst hK
      have hr := hide (show -1000000000 ≤ N ∧ N ≤ 1000000000 by
        by_cases hr : -1000000000 ≤ N ∧ N ≤ 1000000000
        · exact hr
        · rw [valB_out S hr] at hv; cases hv)
      rw [spokV_one hv, textV_num hv]
      have HTab := hide ht
      clear ht hv
      go_enter Tryd.func97, Tryd.ntmps97
      go_wp2_with fail
      refine (Tryd.strconv_Itoa N (by have := hr.out; omega) (by have := hr.out; omega) _ HTab.out).mono ?_
      rintro e w1 ⟨rfl, k, os, rfl⟩
      have hb := Lib.below_grow w.heap.size w (Nat.le_refl _) k os
      generalize Sort.grow (w.drewN k) os = w1 at hb ⊢
      generalize hT : (⟨(Lib.itoa N).toArray⟩ : ByteArray) = s
      have HT := hide hT
      clear hT
      go_wp2
      go_ret
      exact ⟨by rw [HT.out]; rfl, hb⟩
    · have e : spokV K N S = .iface 167 (.string S) := by unfold spokV; rw [hv, if_pos rfl, if_neg hK]
      have hS := valB_texts hv hK
      have hc1 : (ByteArray.mk #[39]).size = 1 := rfl
      rw [e, textV_text hv hK]
      clear e hK hv
      go_enter Tryd.func97, Tryd.ntmps97
      go_wp2
      go_ret
      exact ⟨rfl, Below.refl _ _⟩

set_option maxHeartbeats 1600000 in
theorem implValText_any (K N : Int) (S : ByteArray) (w : World) (hs : S.size ≤ maxLen) (ht : Tab w) :
    Calls Tryd.prog 47 #[.agg #[.int .i64 K, .int .i64 N, .string S]] w fun e w' => e = .returned (.string (textV K N S)) ∧ Below w.heap.size w w' := by
  have HTab := hide ht
  clear ht
  go_enter Tryd.func47, Tryd.ntmps47
  go_wp2_with fail
  refine (spokenOf_any K N S _ hs).mono ?_
  rintro e w1 ⟨rfl, hb⟩
  have hb1 : Below w.heap.size w w1 := ((Below.refl w.heap.size w).alloc (Nat.le_refl _) _).trans (hb.mono (by simp))
  clear hb
  go_wp2_with fail
  refine (textOfSpoken_any K N S w1 (HTab.out.later hb1 (Nat.le_refl _))).mono ?_
  rintro e w2 ⟨rfl, hb2⟩
  have hb3 : Below w.heap.size w w2 := hb1.trans (hb2.mono hb1.size)
  clear hb2
  generalize hT : textV K N S = s
  have HT := hide hT
  clear hT
  go_wp2
  go_ret
  exact ⟨by rw [HT.out]; rfl, hb3⟩

set_option maxHeartbeats 1600000 in
theorem l2Text_any (K N : Int) (S : ByteArray) (w : World) (hv : valB K N S = true) :
    Calls Tryd.prog 92 #[.agg #[.int .i64 K, .int .i64 N, .string S]] w fun e w' => e = .returned (.string (textV K N S)) ∧ Below w.heap.size w w' := by
  by_cases hK : K = 1
  · subst hK
    have hr : -1000000000 ≤ N ∧ N ≤ 1000000000 := by
      by_cases hr : -1000000000 ≤ N ∧ N ≤ 1000000000
      · exact hr
      · rw [valB_out S hr] at hv; cases hv
    obtain ⟨hr1, hr2⟩ := hr
    have HV := hide (textV_num hv)
    clear hv
    go_enter Tryd.func92, Tryd.ntmps92
    go_wp2_with fail
    refine (l2Num_any N _ hr1 hr2).mono ?_
    rintro e w1 ⟨s, rfl, hs, HS, hb⟩
    have hb1 : Below w.heap.size w w1 := ((Below.refl w.heap.size w).alloc (Nat.le_refl _) _).trans (hb.mono (by simp))
    clear hb
    go_wp2
    go_ret
    exact ⟨by rw [HV.out, ← HS.out]; rfl, hb1⟩
  · have hS := valB_texts hv hK
    have HV := hide (textV_text hv hK)
    have hc1 : (ByteArray.mk #[39]).size = 1 := rfl
    have hk : (K == 1) = false := by simpa using hK
    clear hv hK
    go_enter Tryd.func92, Tryd.ntmps92
    go_wp2
    go_ret
    exact ⟨by rw [HV.out]; rfl, by go_grown⟩

end Go.Proofs.YtbellpalomiokacDoor
/-
  The text of a value that is right is short.
-/
namespace Go.Proofs.YtbellpalomiokacDoor
open Go.RowKit
set_option linter.unusedVariables false

def V3.tx (v : V3) : ByteArray := textV v.K v.N v.S
theorem tx_size {v : V3} (h : v.ok = true) : v.tx.size ≤ 22 := by
  obtain ⟨K, N, S⟩ := v
  have h' : valB K N S = true := h
  show (textV K N S).size ≤ 22
  by_cases hk : K = 1
  · subst hk
    have hN : -1000000000 ≤ N ∧ N ≤ 1000000000 := by
      by_cases hN : -1000000000 ≤ N ∧ N ≤ 1000000000
      · exact hN
      · rw [valB_out S hN] at h'; cases h'
    rw [textV_num h']
    show (Lib.itoa N).toArray.size ≤ 22
    simp only [List.size_toArray]
    by_cases hn : N < 0
    · rw [itoa_neg hn]; have := nDigits_10 N.natAbs (by omega); simp only [List.length_cons]; rw [Lib.decDigits_length]; omega
    · rw [itoa_pos hn]; have := nDigits_10 N.toNat (by omega); rw [Lib.decDigits_length]; omega
  · have hS := valB_texts h' hk
    rw [textV_text h' hk]
    have e1 : (⟨#[39]⟩ : ByteArray).size = 1 := rfl
    simp only [ByteArray.size_append, e1]; omega
end Go.Proofs.YtbellpalomiokacDoor
/-
  What the text of a fact is: its kind, and the texts of its values between brackets; the model's and the tested one alike.
-/
namespace Go.Proofs.YtbellpalomiokacDoor
open Go.RowKit
set_option linter.unusedVariables false

/-- the texts with commas between -/
def joinV (L : List V3) : List UInt8 := Lib.join (L.map fun v => v.tx.data.toList) [44]
theorem joinV_nil : joinV [] = [] := rfl
theorem joinV_snoc (L : List V3) (v : V3) : joinV (L ++ [v]) = if L = [] then v.tx.data.toList else joinV L ++ (44 :: v.tx.data.toList) := by
  unfold joinV Lib.join
  induction L with
  | nil => simp [List.intercalate]
  | cons a r ih =>
    rw [if_neg (by simp)]
    cases r with
    | nil => simp [List.intercalate]
    | cons b s =>
      rw [if_neg (by simp)] at ih
      simp only [List.map_append, List.map_cons, List.map_nil, List.cons_append] at ih ⊢
      have e : ∀ (p q : List UInt8) (t : List (List UInt8)), List.intercalate [44] (p :: q :: t) = p ++ (44 :: List.intercalate [44] (q :: t)) := fun p q t => by simp [List.intercalate, List.intersperse]
      rw [e, e, ih]
      simp
theorem joinV_take {L : List V3} (h : ∀ v ∈ L, v.ok = true) : ∀ k, k ≤ L.length → (joinV (L.take k)).length ≤ 23 * k
  | 0, _ => by simp [joinV_nil]
  | k + 1, hk => by
    have ih := joinV_take h k (by omega)
    have h2 := tx_size (h L[k] (List.getElem_mem (by omega)))
    have e : L[k].tx.data.toList.length = L[k].tx.size := by rw [Array.length_toList]; rfl
    rw [List.take_succ_eq_append_getElem (by omega), joinV_snoc]
    split
    · omega
    · simp only [List.length_append, List.length_cons]; omega
def factT (kd : ByteArray) (L : List V3) : ByteArray := if factB kd L then kd ++ (⟨#[40]⟩ ++ ⟨(joinV L).toArray⟩ ++ ⟨#[41]⟩) else ⟨#[]⟩

theorem ok_at {L : List V3} (h : ∀ v ∈ L, v.ok = true) {k : Nat} (hk : k < L.length) : (vAt L k).ok = true := by rw [vAt_in hk]; exact h _ (List.getElem_mem hk)

set_option maxRecDepth 100000 in
set_option maxHeartbeats 1600000 in
theorem l3ValsText_any (a : Option Addr) (cap : Nat) (L : List V3) (w : World) (hr : RdV w a L) (h5 : L.length ≤ 5) (hok : ∀ v ∈ L, v.ok = true) :
    Calls Tryd.prog 43 #[.slice a L.length cap] w fun e w' =>
      e = .returned (.string (⟨#[40]⟩ ++ ⟨(joinV L).toArray⟩ ++ ⟨#[41]⟩)) ∧ Below w.heap.size w w' := by
  have HOk := hide hok
  clear hok
  obtain ⟨n, hN⟩ : ∃ n, n = L.length := ⟨_, rfl⟩
  rw [← hN] at h5 ⊢
  have HN := hide hN
  have c40 : (ByteArray.mk #[40]).size = 1 := rfl
  have c41 : (ByteArray.mk #[41]).size = 1 := rfl
  have c44 : (ByteArray.mk #[44]).size = 1 := rfl
  clear hN
  go_enter Tryd.func43, Tryd.ntmps43
  go_wp2
  go_loopw [3, 4] (fun s i wr => ∃ (k : Nat) (t : ByteArray), k ≤ n ∧ i = .int .i64 k ∧ s = .string t ∧ t.size ≤ 1 + 23 * k ∧ t = ⟨#[40]⟩ ++ ⟨(joinV (L.take k)).toArray⟩ ∧ Below w.heap.size w wr) (fun _ i _ => n - (intOf i).toNat)
  case atStart => exact ⟨0, ⟨#[40]⟩, Nat.zero_le _, rfl, rfl, by omega, by rw [List.take_zero, joinV_nil]; rfl, Below.refl _ _⟩
  case round =>
    obtain ⟨k, t, hk, rfl, rfl, hts, ht, hbel⟩ := hrel
    have HT := hide ht
    clear ht
    by_cases hlt : k < n
    · obtain ⟨b, off, hab, hbw, hc⟩ := hr.open (by rw [← HN.out]; omega)
      obtain ⟨c0, c1, c2⟩ := hc k (by rw [← HN.out]; exact hlt)
      clear hc
      subst hab
      rw [← hbel.cell (p := ⟨b, off + k * 3, none⟩) hbw] at c0
      rw [← hbel.cell (p := ⟨b, off + k * 3 + 1, none⟩) hbw] at c1
      rw [← hbel.cell (p := ⟨b, off + k * 3 + 2, none⟩) hbw] at c2
      have hv := ok_at HOk.out (show k < L.length by rw [← HN.out]; exact hlt)
      have hxs := tx_size hv
      have HTake : Hid (L.take (k + 1) = L.take k ++ [vAt L k]) := by unfold Hid; rw [List.take_succ_eq_append_getElem (by rw [← HN.out]; exact hlt), vAt_in]
      have HV := hide (fun W => l2Text_any (vAt L k).K (vAt L k).N (vAt L k).S W hv)
      rw [show textV (vAt L k).K (vAt L k).N (vAt L k).S = (vAt L k).tx from rfl] at HV
      by_cases h0 : k = 0
      · subst h0
        have HJ : Hid (t ++ (vAt L 0).tx = ⟨#[40]⟩ ++ ⟨(joinV (L.take 1)).toArray⟩) := by
          unfold Hid
          have h1 := HTake.out
          rw [Nat.zero_add, List.take_zero, List.nil_append] at h1
          rw [h1, HT.out, List.take_zero, joinV_nil]
          have e : joinV [vAt L 0] = (vAt L 0).tx.data.toList := by have := joinV_snoc [] (vAt L 0); simpa using this
          rw [e]
          apply ByteArray.ext; apply Array.toList_inj.1; simp
        simp only [Nat.zero_mul, Nat.add_zero] at c0 c1 c2
        generalize (vAt L 0).tx = x at hxs HV HJ
        have hts1 : t.size ≤ 1 := by omega
        clear hv hts
        go_wp2_with fail
        refine (HV.out _).mono ?_
        rintro e w2 ⟨rfl, hb2⟩
        have hbel2 : Below w.heap.size w w2 := hbel.trans (hb2.mono hbel.size)
        clear hb2 hbel c0 c1 c2
        go_wp2
        go_roundw
        case rel => exact ⟨1, t ++ x, by omega, by go_num, rfl, by rw [ByteArray.size_append]; omega, HJ.out, hbel2⟩
        case measure => simp [intOf]; omega
      · have hne : L.take k ≠ [] := fun e => by have := congrArg List.length e; rw [List.length_take, List.length_nil] at this; have := HN.out; omega
        have HJ : Hid (t ++ ⟨#[44]⟩ ++ (vAt L k).tx = ⟨#[40]⟩ ++ ⟨(joinV (L.take (k + 1))).toArray⟩) := by
          unfold Hid
          rw [HTake.out, joinV_snoc, if_neg hne, HT.out]
          apply ByteArray.ext; apply Array.toList_inj.1; simp
        generalize (vAt L k).tx = x at hxs HV HJ
        have hkp : (0 : Int) < (k : Int) := by omega
        clear hv hne h0
        go_wp2_with fail
        refine (HV.out _).mono ?_
        rintro e w2 ⟨rfl, hb2⟩
        have hbel2 : Below w.heap.size w w2 := hbel.trans (hb2.mono hbel.size)
        have hsz2 : (t ++ ⟨#[44]⟩ : ByteArray).size = t.size + 1 := by rw [ByteArray.size_append, c44]
        clear hb2 hbel c0 c1 c2
        go_wp2
        go_roundw
        case rel => exact ⟨k + 1, t ++ ⟨#[44]⟩ ++ x, by omega, by go_num, rfl, by rw [ByteArray.size_append, hsz2]; omega, HJ.out, hbel2⟩
        case measure => simp [intOf]; omega
    · obtain rfl : k = n := by omega
      have HT2 : Hid (t = ⟨#[40]⟩ ++ ⟨(joinV L).toArray⟩) := by
        have := HT.out
        rw [HN.out, List.take_length] at this
        exact this
      go_wp2
      go_ret
      exact ⟨by rw [← HT2.out]; rfl, hbel⟩
end Go.Proofs.YtbellpalomiokacDoor
/-
  What the model answers for a fact's text: factT.
-/
namespace Go.Proofs.YtbellpalomiokacDoor
open Go.RowKit
set_option linter.unusedVariables false

theorem factT_no {kd : ByteArray} {L : List V3} (h : factB kd L = false) : factT kd L = ⟨#[]⟩ := by unfold factT; rw [if_neg (by rw [h]; simp)]
theorem factT_yes {kd : ByteArray} {L : List V3} (h : factB kd L = true) : factT kd L = kd ++ (⟨#[40]⟩ ++ ⟨(joinV L).toArray⟩ ++ ⟨#[41]⟩) := by unfold factT; rw [if_pos h]
theorem factB_open {kd : ByteArray} {L : List V3} (h : factB kd L = true) : nameB kd = true ∧ L.length ≤ 5 ∧ ∀ v ∈ L, v.ok = true := by
  unfold factB at h
  simp only [Bool.and_eq_true, decide_eq_true_eq, List.all_eq_true] at h
  exact ⟨h.1.1, h.1.2, h.2⟩
theorem joinV_le {L : List V3} (h : ∀ v ∈ L, v.ok = true) : (joinV L).length ≤ 23 * L.length := by
  have := joinV_take h L.length (Nat.le_refl _)
  rwa [List.take_length] at this
theorem name_size {s : ByteArray} (h : nameB s = true) : s.size ≤ 12 := by
  unfold nameB inB at h
  simp only [Bool.and_eq_true, decide_eq_true_eq] at h
  omega
theorem keepT {w0 W w' : World} {B : Nat} {p0 p1 : Addr} {v0 v1 : Value} {a : Option Addr} {L : List V3} (hb : Below W.heap.size W w')
    (h : W.cell? p0 = some v0 ∧ W.cell? p1 = some v1 ∧ RdV W a L ∧ Below B w0 W ∧ B ≤ W.heap.size) :
    w'.cell? p0 = some v0 ∧ w'.cell? p1 = some v1 ∧ RdV w' a L ∧ Below B w0 w' ∧ B ≤ w'.heap.size := by
  obtain ⟨h0, h1, h2, h3, h4⟩ := h
  have k : ∀ {a : Addr} {v : Value}, W.cell? a = some v → w'.cell? a = some v := fun {a v} h => by rw [hb.cell (World.block_lt_of_cell? W _ h)]; exact h
  exact ⟨k h0, k h1, h2.below hb, h3.trans (hb.mono h4), Nat.le_trans h4 hb.size⟩
theorem rdT {w0 W : World} {B : Nat} {p0 p1 : Addr} {v0 v1 : Value} {a : Option Addr} {L : List V3}
    (h : W.cell? p0 = some v0 ∧ W.cell? p1 = some v1 ∧ RdV W a L ∧ Below B w0 W ∧ B ≤ W.heap.size) : RdV W a L := h.2.2.1

set_option maxRecDepth 100000 in
set_option maxHeartbeats 1600000 in
theorem specFactText_any (kd : ByteArray) (a : Option Addr) (cap : Nat) (L : List V3) (w : World) (hkd : kd.size ≤ maxLen) (hr : RdV w a L) (hs : ∀ v ∈ L, v.S.size ≤ maxLen) (hm : L.length ≤ 1048580) :
    Calls Tryd.prog 10 #[.agg #[.string kd, .slice a L.length cap]] w fun e w' =>
      e = .returned (.string (factT kd L)) ∧ Below w.heap.size w w' := by
  have b0 := below_al w (.cells #[.string kd, .slice a L.length cap] 29)
  have hX := box2_new w (.string kd) (.slice a L.length cap) 29
  go_enter Tryd.func10, Tryd.ntmps10
  go_wp2_with fail
  refine (specFactOk_any kd a cap L _ hkd (hr.below b0) hs hm).mono ?_
  rintro e w1 ⟨rfl, hb1⟩
  have HX := hide (box_below hX hb1 (by simp))
  have hB1 : Below w.heap.size w w1 := b0.trans (hb1.mono b0.size)
  clear hb1 b0 hX
  cases hv : factB kd L
  · have HV := hide (factT_no hv)
    clear hv
    go_wp2
    go_ret
    exact ⟨by rw [HV.out]; rfl, hB1⟩
  · obtain ⟨x0, x1, -, -⟩ := box2_cell HX.out
    obtain ⟨hn, h5, hok⟩ := factB_open hv
    have HV := hide (factT_yes hv)
    have HOk := hide hok
    clear hv hok
    have hkn := name_size hn
    have hjn := joinV_le HOk.out
    have r1 := hr.below hB1
    have z1 := hB1.size
    obtain ⟨x, hx⟩ : ∃ x, x = (⟨#[40]⟩ ++ ⟨(joinV L).toArray⟩ ++ ⟨#[41]⟩ : ByteArray) := ⟨_, rfl⟩
    have hxs : x.size ≤ 117 := by
      rw [hx, ByteArray.size_append, ByteArray.size_append, show (ByteArray.mk #[40]).size = 1 from rfl, show (ByteArray.mk #[41]).size = 1 from rfl, show (ByteArray.mk (joinV L).toArray).size = (joinV L).length from by show (joinV L).toArray.size = _; simp]
      omega
    have HL := hide (fun W (h : RdV W a L) => l3ValsText_any a cap L W h h5 HOk.out)
    rw [← hx] at HV HL
    have hnot : ¬ 9223372036854775807 < kd.size + x.size := by omega
    have hnot2 : kd.size + x.size ≤ 9223372036854775807 := by omega
    clear hx HX hn hjn hxs hkn
    go_wp2_with fail
    go_region_held3 (fun W => W.cell? ⟨w.heap.size, 0, none⟩ = some (.string kd) ∧ W.cell? ⟨w.heap.size, 1, none⟩ = some (.slice a L.length cap) ∧ RdV W a L ∧ Below w.heap.size w W ∧ w.heap.size ≤ W.heap.size) (first | exact ⟨x0, x1, r1.heap rfl, hB1.drew, z1⟩ | exact keepT (by assumption) (by assumption))
      (first | (go_at_call 43; refine (HL.out _ (rdT (by assumption))).mono ?_; rintro e w2 ⟨rfl, hb2⟩))
    all_goals
      obtain ⟨-, -, -, hB2, -⟩ : w2.cell? ⟨w.heap.size, 0, none⟩ = some (.string kd) ∧ w2.cell? ⟨w.heap.size, 1, none⟩ = some (.slice a L.length cap) ∧ RdV w2 a L ∧ Below w.heap.size w w2 ∧ w.heap.size ≤ w2.heap.size := by assumption
      go_wp2
      go_ret
      exact ⟨by rw [HV.out]; rfl, hB2⟩
end Go.Proofs.YtbellpalomiokacDoor
/-
  Rows of bytes: what a slice of bytes reads as (Rd), what a call's own row holds (vals), and the contracts of the laws' own helpers on them: toByteS copies, eqByteS tells whether two are the same.
-/
namespace Go.Proofs.YtbellpalomiokacDoor
open Go.RowKit
set_option linter.unusedVariables false

theorem Tryd.info5 : (Tryd.prog.info? 5).map (fun i => (i.zero, i.size, i.bytes)) = some (some (.int .u8 0), 1, 1) := by kernel_rfl

/-- the i-th byte as a number -/
def byteAt (bs : List UInt8) (i : Nat) : Int := ((bs.getD i 0).toNat : Int)
theorem byteAt_lo (bs : List UInt8) (i : Nat) : 0 ≤ byteAt bs i := by unfold byteAt; omega
theorem byteAt_hi (bs : List UInt8) (i : Nat) : byteAt bs i ≤ 255 := by
  unfold byteAt; have := (bs.getD i 0).toNat_lt; omega

def vals (bs : List UInt8) : List Value := bs.map (fun b => Value.int .u8 (b.toNat : Int))
theorem vals_length (bs : List UInt8) : (vals bs).length = bs.length := by simp [vals]
theorem vals_get {bs : List UInt8} {i : Nat} (h : i < bs.length) : (vals bs)[i]? = some (.int .u8 (byteAt bs i)) := by
  unfold vals byteAt
  rw [List.getElem?_map, List.getElem?_eq_getElem h]
  simp [List.getD, h]
theorem vals_append (a b : List UInt8) : vals (a ++ b) = vals a ++ vals b := by simp [vals]

/-- what the slice at 'a' reads as -/
def Rd (w : World) (a : Option Addr) (bs : List UInt8) : Prop :=
  ∀ i, i < bs.length → ∃ b off, a = some ⟨b, off, none⟩ ∧ w.cell? ⟨b, off + i, none⟩ = some (.int .u8 (byteAt bs i))

theorem Rd.open {w : World} {a : Option Addr} {bs : List UInt8} (h : Rd w a bs) (hp : 0 < bs.length) :
    ∃ b off, a = some ⟨b, off, none⟩ ∧ b < w.heap.size ∧ ∀ i, i < bs.length → w.cell? ⟨b, off + i, none⟩ = some (.int .u8 (byteAt bs i)) := by
  obtain ⟨b, off, rfl, h0⟩ := h 0 hp
  refine ⟨b, off, rfl, World.block_lt_of_cell? w _ h0, fun i hi => ?_⟩
  obtain ⟨b2, off2, e, h1⟩ := h i hi
  simp only [Option.some.injEq, Addr.mk.injEq] at e
  rw [e.1, e.2.1]; exact h1

theorem Rd.below {w w' : World} {a : Option Addr} {bs : List UInt8} (h : Rd w a bs) (hb : Below w.heap.size w w') : Rd w' a bs := by
  intro i hi
  obtain ⟨b, off, e, hc⟩ := h i hi
  exact ⟨b, off, e, by rw [hb.cell (p := ⟨b, off + i, none⟩) (World.block_lt_of_cell? w _ hc)]; exact hc⟩

theorem Rd.heap {w w' : World} {a : Option Addr} {bs : List UInt8} (h : Rd w a bs) (hb : w'.heap = w.heap) : Rd w' a bs := by
  intro i hi
  obtain ⟨b, off, e, hc⟩ := h i hi
  exact ⟨b, off, e, by rw [← hc]; simp [World.cell?, hb]⟩

/-- what a call's own row of bytes reads as -/
theorem rd_owns {w : World} {base n : Nat} {v : Value} {bs : List UInt8} (h : w.ownsRow base 5 1 v n (vals bs)) :
    ∃ a cap, v = .slice a bs.length cap ∧ Rd w a bs ∧ n = bs.length := by
  have hn : n = bs.length := by have := h.1; rw [vals_length] at this; omega
  subst hn
  rcases h.2 with ⟨rfl, h0⟩ | ⟨g, cap, cur, rfl, hb, hg, hnc, hcm, hsz, htake⟩
  · exact ⟨none, 0, by rw [h0], fun i hi => by omega, rfl⟩
  · refine ⟨_, cap, rfl, fun i hi => ⟨g, 0, rfl, ?_⟩, rfl⟩
    have := h.cellAt i (by omega)
    rw [vals_get hi] at this
    rw [← this]; simp

/-- the row of bytes that came in -/
def IsRow (k : IntKind) (w : World) (a : Option Addr) (len cap : Nat) (zs : List Int) : Prop :=
  (a = none ∧ len = 0 ∧ cap = 0 ∧ zs = []) ∨
  ∃ x, a = some x ∧ len ≤ cap ∧ cap ≤ maxLen ∧ zs.length = cap ∧ (∀ i, i < zs.length → w.cell? (x.add i) = some (.int k (zs.getD i 0))) ∧ ∀ n ∈ zs, (Lit.int k n).wf = true

theorem isRow_len {k : IntKind} {w : World} {a : Option Addr} {len cap : Nat} {zs : List Int} (h : IsRow k w a len cap zs) : len ≤ maxLen := by
  rcases h with ⟨rfl, rfl, rfl, rfl⟩ | ⟨x, rfl, hl, hm, hz, hcell, hwz⟩
  · exact Nat.zero_le _
  · exact Nat.le_trans hl hm
theorem below_drewN (B : Nat) (w : World) (n : Nat) : Below B w (w.drewN n) := ⟨rfl, rfl, rfl, Nat.le_refl _, fun _ _ => rfl⟩

theorem rd_row {w : World} {a : Option Addr} {len cap : Nat} {zs : List Int} (h : IsRow .u8 w a len cap zs) :
    ∃ bs : List UInt8, bs.length = len ∧ Rd w a bs := by
  rcases h with ⟨rfl, rfl, rfl, rfl⟩ | ⟨x, rfl, hl, hm, hz, hcell, hwz⟩
  · exact ⟨[], rfl, fun i hi => by simp at hi⟩
  · refine ⟨(zs.take len).map (fun n => UInt8.ofNat n.toNat), by simp; omega, fun i hi => ?_⟩
    have hi2 : i < len := by simp at hi; omega
    obtain ⟨b, off, spot⟩ := x
    have hc := hcell i (by omega)
    have hs : spot = none := by
      have h0 := hcell 0 (by omega)
      simpa [Addr.add] using World.cell?_spot h0
    subst hs
    refine ⟨b, off, rfl, ?_⟩
    have e : (⟨b, off, none⟩ : Addr).add i = ⟨b, off + i, none⟩ := Addr.add_lit _ _ _
    rw [e] at hc
    rw [hc]
    have hiz : i < zs.length := by omega
    have hw := hwz zs[i] (List.getElem_mem hiz)
    have hb := bounds_u8 hw
    unfold byteAt
    simp [List.getD, hiz, hi2]
    omega

theorem rd_cells {w : World} {p : Addr} {bs : List UInt8} (hr : Rd w (some p) bs) : ∀ j u, (vals bs)[j]? = some u → w.cell? (p.add j) = some u := by
  intro j u hj
  have hl : j < bs.length := by have := (List.getElem?_eq_some_iff.1 hj).1; rw [vals_length] at this; exact this
  rw [vals_get hl] at hj
  obtain ⟨b, off, e, hc⟩ := hr j hl
  simp only [Option.some.injEq] at e
  subst e
  rw [Addr.add_lit, hc]; exact hj

/-- a row of the call's own, at hand for the readers -/
theorem rd_owns_cap {w : World} {base n : Nat} {v : Value} {bs : List UInt8} (h : w.ownsRow base 5 1 v n (vals bs)) :
    ∃ a cap, v = .slice a bs.length cap ∧ Rd w a bs ∧ bs.length ≤ cap ∧ (a = none → bs.length = 0 ∧ cap = 0) := by
  have hn : n = bs.length := by have := h.1; rw [vals_length] at this; omega
  subst hn
  obtain ⟨a, cap, e, hr, -⟩ := rd_owns h
  rcases h.2 with ⟨h1, h0⟩ | ⟨g, cap', cur, h1, hb, hg, hnc, hcm, hsz, htake⟩
  · rw [e] at h1
    simp only [Value.slice.injEq] at h1
    exact ⟨a, cap, e, hr, by omega, fun _ => ⟨h0, h1.2.2⟩⟩
  · rw [e] at h1
    simp only [Value.slice.injEq] at h1
    exact ⟨a, cap, e, hr, by omega, fun hh => by rw [h1.1] at hh; cases hh⟩

end Go.Proofs.YtbellpalomiokacDoor
/-
  Plain facts on bits of an int that is not below 0.
-/
namespace Go.Proofs.YtbellpalomiokacDoor
open Go.RowKit
set_option linter.unusedVariables false

theorem i64_xor_nat (a b : Nat) (ha : a < 9223372036854775808) (hb : b < 9223372036854775808) : bits .xor .i64 (a : Int) (b : Int) = ((a ^^^ b : Nat) : Int) := by
  have hx : a ^^^ b < 2 ^ 63 := Nat.xor_lt_two_pow (by omega) (by omega)
  show IntKind.i64.wrap ((BitVec.ofInt 64 (a : Int) ^^^ BitVec.ofInt 64 (b : Int)).toNat : Int) = _
  rw [BitVec.toNat_xor, ofInt_u64 a (by omega), ofInt_u64 b (by omega)]
  exact IntWalk.i64_in _ (by omega)
theorem i64_and_nat (a b : Nat) (ha : a < 9223372036854775808) (hb : b < 9223372036854775808) : bits .and .i64 (a : Int) (b : Int) = ((a &&& b : Nat) : Int) := by
  have hx : a &&& b < 2 ^ 63 := Nat.and_lt_two_pow _ (by omega)
  show IntKind.i64.wrap ((BitVec.ofInt 64 (a : Int) &&& BitVec.ofInt 64 (b : Int)).toNat : Int) = _
  rw [BitVec.toNat_and, ofInt_u64 a (by omega), ofInt_u64 b (by omega)]
  exact IntWalk.i64_in _ (by omega)
theorem i64_or_nat (a b : Nat) (ha : a < 9223372036854775808) (hb : b < 9223372036854775808) : bits .or .i64 (a : Int) (b : Int) = ((a ||| b : Nat) : Int) := by
  have hx : a ||| b < 2 ^ 63 := Nat.or_lt_two_pow (by omega) (by omega)
  show IntKind.i64.wrap ((BitVec.ofInt 64 (a : Int) ||| BitVec.ofInt 64 (b : Int)).toNat : Int) = _
  rw [BitVec.toNat_or, ofInt_u64 a (by omega), ofInt_u64 b (by omega)]
  exact IntWalk.i64_in _ (by omega)

theorem u8_and127 (c : Int) (h0 : 0 ≤ c) (h1 : c ≤ 255) : bits .and .u8 c 127 = c % 128 := by
  have := u8_and c 127 h0 (by omega) (by omega) (by omega)
  rw [this, show (127 : Int).toNat = 127 from rfl, nat_mask7]
  omega

/-- the sum's step on one bit -/
def cstep (x : Nat) : Nat := if x % 2 = 1 then (x / 2) ^^^ 2197175160 else x / 2
def cstepN : Nat → Nat → Nat
  | 0, x => x
  | k + 1, x => cstep (cstepN k x)
def cbyte (x c : Nat) : Nat := cstepN 8 (x ^^^ c)
theorem cstep_lt {x : Nat} (h : x < 4294967296) : cstep x < 4294967296 := by
  unfold cstep
  split
  · exact Nat.xor_lt_two_pow (n := 32) (by omega) (by omega)
  · omega
theorem cstepN_lt {x : Nat} (h : x < 4294967296) : ∀ k, cstepN k x < 4294967296
  | 0 => h
  | k + 1 => cstep_lt (cstepN_lt h k)
theorem cxor_lt {x c : Nat} (h : x < 4294967296) (hc : c < 4294967296) : x ^^^ c < 4294967296 := Nat.xor_lt_two_pow (n := 32) (by omega) (by omega)
theorem cbyte_lt {x c : Nat} (h : x < 4294967296) (hc : c < 256) : cbyte x c < 4294967296 := cstepN_lt (cxor_lt h (by omega)) 8
end Go.Proofs.YtbellpalomiokacDoor
