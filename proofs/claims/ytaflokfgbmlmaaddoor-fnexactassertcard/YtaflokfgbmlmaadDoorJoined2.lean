/-
  Texts of this claim joined into one: AssP, KeepF, EqStore, Cmp, Less, VEq, Order, FactL, IdP, Copy3, Fixed, Eq15, FactSame, IdOfS, L4Ass, HoldsO, AllB, Text, ValE, Val, VOk, Name, FactOk, StoreP.
-/
import Derived.Test.YtaflokfgbmlmaadDoorJoined1
import Derived.Deep.RegionHeld3
import Derived.Test.YtaflokfgbmlmaadDoorJPlain
import Derived.Deep.RegionWith
import Derived.Deep.QuietTactic
import Derived.BigQuiet
import Derived.Handy
import Derived.Laws.Strings
import Derived.Laws.CopyOwn
import Derived.Laws.IdiomCopy
import Derived.Deep.RegionLaw
import Derived.Laws.StructEq
import Derived.ChangeKeysEq
import Derived.Test.YtaflokfgbmlmaadDoorJWord
/-
  What a store that is written into keeps: its box is no block of its rows; one item more.
-/
namespace Go.Proofs.YtaflokfgbmlmaadDoor
open Go.RowKit
set_option linter.unusedVariables false

/-- a block that holds a row of one type is no box of another -/
theorem row_ne_box {w : World} {base n size g cap p : Nat} {T T' : TypeId} {xs : List Value} {cs : Array Value} (h : w.ownsRow base T size (.slice (some ⟨g, 0, none⟩) n cap) n xs) (hp : w.heap[p]? = some (.cells cs T' (0, 0))) (hT : T ≠ T') : p ≠ g := by
  rintro rfl
  rcases h.2 with h2 | ⟨g', cap', cur, e, hb, hg, rest⟩
  · exact absurd h2 (by simp)
  · simp only [Value.slice.injEq, Option.some.injEq, Addr.mk.injEq] at e
    rw [← e.1.1, hp] at hg
    simp only [Option.some.injEq, Obj.cells.injEq] at hg
    exact hT hg.2.1.symm
theorem HoldsI.copied {w : World} {lo g cp : Nat} {K : List It} (h : HoldsI w lo g cp K) (x : It) : Copied w lo g (K ++ [x]) K K.length :=
  ⟨fun i hi => ⟨by rw [iAt_app_lt hi], h.vals i hi, h.lies i hi⟩, h.apart⟩
/-- as rebase, the box p is written too: no list lies in it -/
theorem Copied.rebase3 {w w' : World} {lo g g' p : Nat} {J K : List It} {k : Nat} {cs : Array Value} (h : Copied w lo g J K k) (hp : w.heap[p]? = some (.cells cs 29 (0, 0))) (hk : ∀ q, q < w.heap.size → q ≠ g → q ≠ p → w'.heap[q]? = w.heap[q]?) (hg : g' = g ∨ w.heap.size ≤ g') : Copied w' lo g' J K k := by
  refine ⟨fun i hi => ?_, h.2⟩
  obtain ⟨h1, h2, h3⟩ := h.1 i hi
  refine ⟨h1, fun hne => ?_, h3⟩
  obtain ⟨q, e, hl, hq, o⟩ := h2 hne
  have hlt := o.lt
  have hqp : p ≠ q := row_ne_box o hp (by decide)
  refine ⟨q, e, hl, by rcases hg with rfl | hg; exact hq; omega, ?_⟩
  exact ownsRow_sameB o (fun j hj => by simp only [Value.ownBlock, Option.some.injEq] at hj; rw [← hj]; exact hk q hlt hq (fun e => hqp e.symm))
end Go.Proofs.YtaflokfgbmlmaadDoor
/-
  Four cells (two facts in memory) and what two lists of values read as are kept where all that was there is.
-/
namespace Go.Proofs.YtaflokfgbmlmaadDoor
open Go.RowKit
set_option linter.unusedVariables false

/-- two facts in memory, their lists, and all that was there at the head -/
def Two (w0 : World) (B : Nat) (a b : Option Addr) (L M : List V3) (W : World) : Prop := RdV W a L ∧ RdV W b M ∧ Below B w0 W ∧ B ≤ W.heap.size
theorem Two.keep {w0 W w' : World} {B : Nat} {a b : Option Addr} {L M : List V3} (h : Two w0 B a b L M W) (hb : Below W.heap.size W w') : Two w0 B a b L M w' :=
  ⟨h.1.below hb, h.2.1.below hb, h.2.2.1.trans (hb.mono h.2.2.2), Nat.le_trans h.2.2.2 hb.size⟩
theorem Two.drew {w0 W : World} {B : Nat} {a b : Option Addr} {L M : List V3} (h : Two w0 B a b L M W) : Two w0 B a b L M W.drew :=
  ⟨h.1.heap rfl, h.2.1.heap rfl, h.2.2.1.drew, h.2.2.2⟩
theorem keepF {w0 W w' : World} {B : Nat} {p0 p1 p2 p3 : Addr} {v0 v1 v2 v3 : Value} {a b : Option Addr} {L M : List V3} (hb : Below W.heap.size W w')
    (h : W.cell? p0 = some v0 ∧ W.cell? p1 = some v1 ∧ W.cell? p2 = some v2 ∧ W.cell? p3 = some v3 ∧ Two w0 B a b L M W) :
    w'.cell? p0 = some v0 ∧ w'.cell? p1 = some v1 ∧ w'.cell? p2 = some v2 ∧ w'.cell? p3 = some v3 ∧ Two w0 B a b L M w' := by
  obtain ⟨h0, h1, h2, h3, h4⟩ := h
  have k : ∀ {a : Addr} {v : Value}, W.cell? a = some v → w'.cell? a = some v := fun {a v} h => by rw [hb.cell (World.block_lt_of_cell? W _ h)]; exact h
  exact ⟨k h0, k h1, k h2, k h3, h4.keep hb⟩
theorem rdA {w0 W : World} {B : Nat} {p0 p1 p2 p3 : Addr} {v0 v1 v2 v3 : Value} {a b : Option Addr} {L M : List V3}
    (h : W.cell? p0 = some v0 ∧ W.cell? p1 = some v1 ∧ W.cell? p2 = some v2 ∧ W.cell? p3 = some v3 ∧ Two w0 B a b L M W) : RdV W a L := h.2.2.2.2.1
theorem rdB {w0 W : World} {B : Nat} {p0 p1 p2 p3 : Addr} {v0 v1 v2 v3 : Value} {a b : Option Addr} {L M : List V3}
    (h : W.cell? p0 = some v0 ∧ W.cell? p1 = some v1 ∧ W.cell? p2 = some v2 ∧ W.cell? p3 = some v3 ∧ Two w0 B a b L M W) : RdV W b M := h.2.2.2.2.2.1
end Go.Proofs.YtaflokfgbmlmaadDoor
/-
  The contracts of the laws' own comparison of items and stores: what is plainly the same is found the same.
-/
namespace Go.Proofs.YtaflokfgbmlmaadDoor
open Go.RowKit
set_option linter.unusedVariables false

set_option maxRecDepth 100000 in
set_option maxHeartbeats 1600000 in
theorem eqItem_same (id : Int) (kd : ByteArray) (a b : Option Addr) (ca cb : Nat) (L : List V3) (w : World) (hr : RdV w a L) (hq : RdV w b L) (hn : L.length ≤ 1048580) :
    Calls Tryd.prog 61 #[.agg #[.int .i64 id, .string kd, .slice a L.length ca], .agg #[.int .i64 id, .string kd, .slice b L.length cb]] w fun e w' =>
      e = .returned (.bool true) ∧ Below w.heap.size w w' := by
  have k1 : (id != id) = false := by simp
  have b0 := below_al w (.cells #[.int .i64 id, .string kd, .slice a L.length ca] 54)
  have b1 := b0.alloc b0.size (.cells #[.int .i64 id, .string kd, .slice b L.length cb] 54)
  go_enter Tryd.func61, Tryd.ntmps61
  go_wp2_with fail
  refine (eqFact_same kd a b ca cb L _ (hr.below b1) (hq.below b1) hn).mono ?_
  rintro e w1 ⟨rfl, hb⟩
  have hB : Below w.heap.size w w1 := b1.trans (hb.mono b1.size)
  go_wp2
  go_ret
  exact ⟨rfl, hB⟩
theorem eqItem_of (id id' : Int) (kd kd' : ByteArray) (a b : Option Addr) (ca cb : Nat) (L M : List V3) (w : World) (hr : RdV w a L) (hq : RdV w b M) (hn : L.length ≤ 1048580) (h1 : id = id') (h2 : kd = kd') (h3 : L = M) :
    Calls Tryd.prog 61 #[.agg #[.int .i64 id, .string kd, .slice a L.length ca], .agg #[.int .i64 id', .string kd', .slice b M.length cb]] w fun e w' =>
      e = .returned (.bool true) ∧ Below w.heap.size w w' := by subst h1 h2 h3; exact eqItem_same id kd a b ca cb L w hr hq hn
/-- two items in memory, their lists, and all that was there at the head -/
theorem keepI {w0 W w' : World} {B : Nat} {p0 p1 p2 p3 p4 p5 : Addr} {v0 v1 v2 v3 v4 v5 : Value} {a b : Option Addr} {L M : List V3} (hb : Below W.heap.size W w')
    (h : W.cell? p0 = some v0 ∧ W.cell? p1 = some v1 ∧ W.cell? p2 = some v2 ∧ W.cell? p3 = some v3 ∧ W.cell? p4 = some v4 ∧ W.cell? p5 = some v5 ∧ Two w0 B a b L M W) :
    w'.cell? p0 = some v0 ∧ w'.cell? p1 = some v1 ∧ w'.cell? p2 = some v2 ∧ w'.cell? p3 = some v3 ∧ w'.cell? p4 = some v4 ∧ w'.cell? p5 = some v5 ∧ Two w0 B a b L M w' := by
  obtain ⟨h0, h1, h2, h3, h4, h5, h6⟩ := h
  have k : ∀ {a : Addr} {v : Value}, W.cell? a = some v → w'.cell? a = some v := fun {a v} h => by rw [hb.cell (World.block_lt_of_cell? W _ h)]; exact h
  exact ⟨k h0, k h1, k h2, k h3, k h4, k h5, h6.keep hb⟩

set_option maxRecDepth 100000 in
set_option maxHeartbeats 3200000 in
theorem eqItemS_same (a b : Option Addr) (ca cb n : Nat) (J K : List It) (w : World) (hr : RdI w a J) (hq : RdI w b K) (hJ : J.length = n) (hpl : J.map It.pl = K.map It.pl) (hm : n ≤ 1048580) (hl : ∀ i, i < J.length → (iAt J i).L.length ≤ 1048580) :
    Calls Tryd.prog 35 #[.slice a n ca, .slice b n cb] w fun e w' =>
      e = .returned (.bool true) ∧ Below w.heap.size w w' := by
  have HJ := hide hJ
  have HK : Hid (K.length = n) := by unfold Hid; rw [← hJ, pl_len hpl]
  have HP := hide hpl
  have HL := hide hl
  clear hJ hpl hl
  have hnn : ((n : Int) != (n : Int)) = false := by simp
  go_enter Tryd.func35, Tryd.ntmps35
  go_wp2
  go_loopw [5] (fun i wr => ∃ (k : Nat), k ≤ n ∧ i = .int .i64 k ∧ Below w.heap.size w wr) (fun i _ => n - (intOf i).toNat)
  case atStart => exact ⟨0, Nat.zero_le _, rfl, Below.refl _ _⟩
  case round =>
    obtain ⟨k, hk, rfl, hbel⟩ := hrel
    by_cases hlt : k < n
    · obtain ⟨b1, o1, e1, hbw1, hc1⟩ := hr.open (by rw [HJ.out]; omega)
      obtain ⟨b2, o2, e2, hbw2, hc2⟩ := hq.open (by rw [HK.out]; omega)
      obtain ⟨c0, c1, c2, hv1⟩ := hc1 k (by rw [HJ.out]; exact hlt)
      obtain ⟨d0, d1, d2, hv2⟩ := hc2 k (by rw [HK.out]; exact hlt)
      have HP1 := pl_at HP.out (i := k) (by rw [HJ.out]; exact hlt)
      have HLk := hide (HL.out k (by rw [HJ.out]; exact hlt))
      replace hv1 := hv1.below hbel
      replace hv2 := hv2.below hbel
      clear hc1 hc2
      subst e1 e2
      rw [← hbel.cell (p := ⟨b1, o1 + k * 3, none⟩) hbw1] at c0
      rw [← hbel.cell (p := ⟨b1, o1 + k * 3 + 1, none⟩) hbw1] at c1
      rw [← hbel.cell (p := ⟨b1, o1 + k * 3 + 2, none⟩) hbw1] at c2
      rw [← hbel.cell (p := ⟨b2, o2 + k * 3, none⟩) hbw2] at d0
      rw [← hbel.cell (p := ⟨b2, o2 + k * 3 + 1, none⟩) hbw2] at d1
      rw [← hbel.cell (p := ⟨b2, o2 + k * 3 + 2, none⟩) hbw2] at d2
      generalize iAt J k = x at c0 c1 c2 hv1 HP1 HLk
      generalize iAt K k = y at d0 d1 d2 hv2 HP1
      obtain ⟨id, kd, va, vc, L⟩ := x
      obtain ⟨id', kd', vb, wc, M⟩ := y
      simp only at c0 c1 c2 hv1 d0 d1 d2 hv2 HP1 HLk
      obtain ⟨rfl, rfl, rfl⟩ := HP1
      have T0 : Two w w.heap.size va vb L L wr := ⟨hv1, hv2, hbel, hbel.size⟩
      clear hv1 hv2 hbel
      go_wp2_with fail
      go_region_held3 (fun W => W.cell? ⟨b1, o1 + k * 3, none⟩ = some (.int .i64 id) ∧ W.cell? ⟨b1, o1 + k * 3 + 1, none⟩ = some (.string kd) ∧ W.cell? ⟨b1, o1 + k * 3 + 2, none⟩ = some (.slice va L.length vc) ∧ W.cell? ⟨b2, o2 + k * 3, none⟩ = some (.int .i64 id) ∧ W.cell? ⟨b2, o2 + k * 3 + 1, none⟩ = some (.string kd) ∧ W.cell? ⟨b2, o2 + k * 3 + 2, none⟩ = some (.slice vb L.length wc) ∧ Two w w.heap.size va vb L L W) (first | exact ⟨c0, c1, c2, d0, d1, d2, T0.drew⟩ | exact keepI (by assumption) (by assumption))
        (first | (go_at_call 61; refine (eqItem_same _ _ _ _ _ _ _ _ T0.drew.1 T0.drew.2.1 HLk.out).mono ?_; rintro e w2 ⟨rfl, hb⟩))
      all_goals
        obtain ⟨-, -, -, -, -, -, T2⟩ : w2.cell? ⟨b1, o1 + k * 3, none⟩ = some (.int .i64 id) ∧ w2.cell? ⟨b1, o1 + k * 3 + 1, none⟩ = some (.string kd) ∧ w2.cell? ⟨b1, o1 + k * 3 + 2, none⟩ = some (.slice va L.length vc) ∧ w2.cell? ⟨b2, o2 + k * 3, none⟩ = some (.int .i64 id) ∧ w2.cell? ⟨b2, o2 + k * 3 + 1, none⟩ = some (.string kd) ∧ w2.cell? ⟨b2, o2 + k * 3 + 2, none⟩ = some (.slice vb L.length wc) ∧ Two w w.heap.size va vb L L w2 := by assumption
        have hB2 := T2.2.2.1
        go_wp2
        go_roundw
        case rel => exact ⟨k + 1, by omega, by go_num, hB2⟩
        case measure => simp [intOf]; omega
    · go_wp2
      go_ret
      exact ⟨rfl, hbel⟩

set_option maxRecDepth 100000 in
set_option maxHeartbeats 1600000 in
theorem eqStore_same (a b : Option Addr) (ca cb n : Nat) (nx : Int) (J K : List It) (w : World) (hr : RdI w a J) (hq : RdI w b K) (hJ : J.length = n) (hpl : J.map It.pl = K.map It.pl) (hm : n ≤ 1048580) (hl : ∀ i, i < J.length → (iAt J i).L.length ≤ 1048580) :
    Calls Tryd.prog 11 #[.agg #[.slice a n ca, .int .i64 nx], .agg #[.slice b n cb, .int .i64 nx]] w fun e w' =>
      e = .returned (.bool true) ∧ Below w.heap.size w w' := by
  have k1 : (nx != nx) = false := by simp
  have b0 := below_al w (.cells #[.slice a n ca, .int .i64 nx] 29)
  have b1 := b0.alloc b0.size (.cells #[.slice b n cb, .int .i64 nx] 29)
  have hA := box_old (box2_new w (.slice a n ca) (.int .i64 nx) 29) (by simp) (.cells #[.slice b n cb, .int .i64 nx] 29)
  have hC := box2_new (w.alloc (.cells #[.slice a n ca, .int .i64 nx] 29)) (.slice b n cb) (.int .i64 nx) 29
  simp only [World.size_alloc] at hA hC
  go_enter Tryd.func11, Tryd.ntmps11
  go_wp2_with fail
  refine (eqItemS_same a b ca cb n J K _ (hr.below b1) (hq.below b1) hJ hpl hm hl).mono ?_
  rintro e w1 ⟨rfl, hb⟩
  have hB : Below w.heap.size w w1 := b1.trans (hb.mono b1.size)
  obtain ⟨a0, a1, -, -⟩ := box2_cell (box_below hA hb (by simp; omega))
  obtain ⟨d0, d1, -, -⟩ := box2_cell (box_below hC hb (by simp))
  clear hA hC hb b0 b1 hr hq hpl hl
  go_wp2
  go_ret
  exact ⟨rfl, hB⟩
end Go.Proofs.YtaflokfgbmlmaadDoor
/-
  What the orders of numbers, texts and values answer.
-/
namespace Go.Proofs.YtaflokfgbmlmaadDoor
open Go.RowKit
set_option linter.unusedVariables false

def cmpI (x y : Int) : Int := if x < y then -1 else if y < x then 1 else 0
def cmpS (a b : ByteArray) : Int := if Op.bytesLess a.toList b.toList then -1 else if a.toList == b.toList then 0 else 1
def orI (a b c : Int) : Int := if a != 0 then a else if b != 0 then b else c

end Go.Proofs.YtaflokfgbmlmaadDoor
/-
  What the order of values answers, the tested one and the model's alike: lessB; nothing that was there has turned.
-/
namespace Go.Proofs.YtaflokfgbmlmaadDoor
open Go.RowKit
set_option linter.unusedVariables false

def lessB (K N : Int) (S : ByteArray) (K' N' : Int) (S' : ByteArray) : Bool :=
  if K != K' then decide (K < K') else if N != N' then decide (N < N') else Op.bytesLess S.toList S'.toList

theorem new3 (w : World) (o1 o2 : Obj) (a b c : Value) (T : TypeId) : (((w.alloc o1).alloc o2).alloc (.cells #[a, b, c] T)).drew.heap[w.heap.size + 1 + 1]? = some (.cells #[a, b, c] T (0, 0)) := by
  have := box_new ((w.alloc o1).alloc o2) a b c T
  simp only [World.size_alloc] at this
  exact this
theorem new3_0 (w : World) (o1 o2 : Obj) (a b c : Value) (T : TypeId) : (((w.alloc o1).alloc o2).alloc (.cells #[a, b, c] T)).drew.cell? ⟨w.heap.size + 1 + 1, 0, none⟩ = some a := (box_cell (new3 w o1 o2 a b c T)).1
theorem new3_1 (w : World) (o1 o2 : Obj) (a b c : Value) (T : TypeId) : (((w.alloc o1).alloc o2).alloc (.cells #[a, b, c] T)).drew.cell? ⟨w.heap.size + 1 + 1, 1, none⟩ = some b := (box_cell (new3 w o1 o2 a b c T)).2.1
theorem new3_2 (w : World) (o1 o2 : Obj) (a b c : Value) (T : TypeId) : (((w.alloc o1).alloc o2).alloc (.cells #[a, b, c] T)).drew.cell? ⟨w.heap.size + 1 + 1, 2, none⟩ = some c := (box_cell (new3 w o1 o2 a b c T)).2.2.1

theorem cmpI_neg (x y : Int) : (cmpI x y < 0 ↔ x < y) ∧ (cmpI x y = 0 ↔ x = y) := by
  unfold cmpI
  by_cases h1 : x < y
  · rw [if_pos h1]; omega
  · rw [if_neg h1]
    by_cases h2 : y < x
    · rw [if_pos h2]; omega
    · rw [if_neg h2]; omega
theorem cmpS_neg (a b : ByteArray) : (cmpS a b < 0) ↔ Op.bytesLess a.toList b.toList = true := by
  unfold cmpS
  cases Op.bytesLess a.toList b.toList
  · simp only [Bool.false_eq_true, if_false, iff_false]
    split <;> omega
  · simp
theorem cmpI_bne (x y : Int) : (cmpI x y != 0) = (x != y) := by
  have h := (cmpI_neg x y).2
  by_cases e : x = y
  · have h0 := h.2 e; rw [h0]; simp [e]
  · have h0 : cmpI x y ≠ 0 := fun h1 => e (h.1 h1)
    rw [bne_iff_ne.2 h0, bne_iff_ne.2 e]
theorem less_of (K N : Int) (S : ByteArray) (K' N' : Int) (S' : ByteArray) : decide (orI (cmpI K K') (cmpI N N') (cmpS S S') < 0) = lessB K N S K' N' S' := by
  have h1 := (cmpI_neg K K').1
  have h2 := (cmpI_neg N N').1
  have h3 := cmpS_neg S S'
  unfold orI lessB
  rw [cmpI_bne, cmpI_bne]
  cases (K != K')
  · cases (N != N')
    · cases hb : Op.bytesLess S.toList S'.toList
      · rw [hb] at h3; simpa using h3
      · rw [hb] at h3; simpa using h3
    · simpa using h2
  · simpa using h1

end Go.Proofs.YtaflokfgbmlmaadDoor
/-
  When two values are the same, plainly.
-/
namespace Go.Proofs.YtaflokfgbmlmaadDoor
open Go.RowKit
set_option linter.unusedVariables false

theorem toList_inj {S S' : ByteArray} (h : S.toList = S'.toList) : S = S' := by
  rw [ByteArray.toList_eq, ByteArray.toList_eq] at h
  cases S; cases S'
  simp at h
  rw [h]
theorem v3_cases (v u : V3) : v = u ∨ (v ≠ u ∧ ((v.K == u.K) = false ∨ ((v.K == u.K) = true ∧ (v.N == u.N) = false) ∨ ((v.K == u.K) = true ∧ (v.N == u.N) = true ∧ (v.S.toList == u.S.toList) = false))) := by
  by_cases h1 : v.K = u.K
  · by_cases h2 : v.N = u.N
    · by_cases h3 : v.S.toList = u.S.toList
      · left; exact V3.ext' h1 h2 (toList_inj h3)
      · right
        exact ⟨fun e => h3 (by rw [e]), .inr (.inr ⟨by simpa using h1, by simpa using h2, by simpa using h3⟩)⟩
    · right
      exact ⟨fun e => h2 (by rw [e]), .inr (.inl ⟨by simpa using h1, by simpa using h2⟩)⟩
  · right
    exact ⟨fun e => h1 (by rw [e]), .inl (by simpa using h1)⟩
instance : DecidableEq V3 := fun a b => by
  by_cases h : a.K = b.K ∧ a.N = b.N ∧ a.S = b.S
  · exact .isTrue (V3.ext' h.1 h.2.1 h.2.2)
  · exact .isFalse (fun e => h (by rw [e]; exact ⟨rfl, rfl, rfl⟩))

end Go.Proofs.YtaflokfgbmlmaadDoor
/-
  The order of values, plainly: of two unlike ones one is less, of two like ones none.
-/
namespace Go.Proofs.YtaflokfgbmlmaadDoor
open Go.RowKit
set_option linter.unusedVariables false

theorem bl_tri : ∀ x y : List UInt8, (x = y ∧ Op.bytesLess x y = false ∧ Op.bytesLess y x = false) ∨ (x ≠ y ∧ ((Op.bytesLess x y = true ∧ Op.bytesLess y x = false) ∨ (Op.bytesLess x y = false ∧ Op.bytesLess y x = true)))
  | [], [] => .inl ⟨rfl, rfl, rfl⟩
  | [], b :: y => .inr ⟨by simp, .inl ⟨rfl, rfl⟩⟩
  | a :: x, [] => .inr ⟨by simp, .inr ⟨rfl, rfl⟩⟩
  | a :: x, b :: y => by
    have ih := bl_tri x y
    by_cases h1 : a = b
    · subst h1
      have hl : ¬ a < a := UInt8.lt_irrefl a
      rcases ih with ⟨rfl, h2, h3⟩ | ⟨hne, h⟩
      · left
        refine ⟨rfl, ?_, ?_⟩ <;> simp [Op.bytesLess, hl, h2]
      · right
        refine ⟨by simpa using hne, ?_⟩
        rcases h with ⟨h2, h3⟩ | ⟨h2, h3⟩
        · left; constructor <;> simp [Op.bytesLess, hl, h2, h3]
        · right; constructor <;> simp [Op.bytesLess, hl, h2, h3]
    · right
      have h1' : ¬ b = a := fun e => h1 e.symm
      refine ⟨by simp [h1], ?_⟩
      rcases Nat.lt_or_ge a.toNat b.toNat with hlt | hge
      · left
        have l1 : a < b := UInt8.lt_iff_toNat_lt.2 hlt
        have l2 : ¬ b < a := fun h => by have := UInt8.lt_iff_toNat_lt.1 h; omega
        constructor
        · simp [Op.bytesLess, l1]
        · simp [Op.bytesLess, l2, h1']
      · right
        have hne : a.toNat ≠ b.toNat := fun e => h1 (UInt8.toNat_inj.1 e)
        have l1 : b < a := UInt8.lt_iff_toNat_lt.2 (by omega)
        have l2 : ¬ a < b := fun h => by have := UInt8.lt_iff_toNat_lt.1 h; omega
        constructor
        · simp [Op.bytesLess, l2, h1]
        · simp [Op.bytesLess, l1]


/-- two values are the same and none is less; or they differ and just one is -/
theorem order_cases (K N : Int) (S : ByteArray) (K' N' : Int) (S' : ByteArray) :
    (K = K' ∧ N = N' ∧ S = S' ∧ lessB K N S K' N' S' = false) ∨
    (((K == K') = false ∨ ((K == K') = true ∧ (N == N') = false) ∨ ((K == K') = true ∧ (N == N') = true ∧ (S.toList == S'.toList) = false)) ∧ ((lessB K N S K' N' S' = true ∧ lessB K' N' S' K N S = false) ∨ (lessB K N S K' N' S' = false ∧ lessB K' N' S' K N S = true))) := by
  unfold lessB
  by_cases hK : K = K'
  · subst hK
    by_cases hN : N = N'
    · subst hN
      rcases bl_tri S.toList S'.toList with ⟨h1, h2, h3⟩ | ⟨h1, h2⟩
      · left
        exact ⟨rfl, rfl, toList_inj h1, by simp [h2]⟩
      · right
        exact ⟨.inr (.inr ⟨by simp, by simp, by simpa using h1⟩), by simpa using h2⟩
    · right
      have h1 : (N != N') = true := by simpa using hN
      have h2 : (N' != N) = true := by simpa using fun e => hN e.symm
      refine ⟨.inr (.inl ⟨by simp, by simpa using hN⟩), ?_⟩
      rw [h1, h2]
      simp
      omega
  · right
    have h1 : (K != K') = true := by simpa using hK
    have h2 : (K' != K) = true := by simpa using fun e => hK e.symm
    refine ⟨.inl (by simpa using hK), ?_⟩
    rw [h1, h2]
    simp
    omega
end Go.Proofs.YtaflokfgbmlmaadDoor
/-
  The order of facts, plainly.
-/
namespace Go.Proofs.YtaflokfgbmlmaadDoor
open Go.RowKit
set_option linter.unusedVariables false

def V3.less (v u : V3) : Bool := lessB v.K v.N v.S u.K u.N u.S
/-- the first that are unlike decide -/
def lessL : List V3 → List V3 → Bool
  | v :: r, u :: s => if v = u then lessL r s else v.less u
  | _, _ => false
def lessF (kd : ByteArray) (L : List V3) (kd' : ByteArray) (M : List V3) : Bool :=
  if kd.toList != kd'.toList then Op.bytesLess kd.toList kd'.toList else if ((L.length : Int) != (M.length : Int)) then decide ((L.length : Int) < (M.length : Int)) else lessL L M
def sameF (kd : ByteArray) (L : List V3) (kd' : ByteArray) (M : List V3) : Bool := decide (kd = kd') && decide (L = M)

theorem lessL_at : ∀ {L M : List V3} {k : Nat}, k < L.length → k < M.length → (∀ j, j < k → vAt L j = vAt M j) → vAt L k ≠ vAt M k → lessL L M = (vAt L k).less (vAt M k)
  | [], _, k, h, _, _, _ => absurd h (Nat.not_lt_zero _)
  | _ :: _, [], k, _, h, _, _ => absurd h (Nat.not_lt_zero _)
  | v :: r, u :: s, 0, _, _, _, hne => by
    have hne' : v ≠ u := hne
    show (if v = u then _ else _) = _
    rw [if_neg hne']; rfl
  | v :: r, u :: s, k + 1, h, h', hall, hne => by
    have h0 : v = u := hall 0 (by omega)
    show (if v = u then _ else _) = _
    rw [if_pos h0]
    exact lessL_at (L := r) (M := s) (k := k) (by simpa using h) (by simpa using h') (fun j hj => hall (j + 1) (by omega)) hne
theorem lessL_none : ∀ {L M : List V3}, (∀ j, j < L.length → vAt L j = vAt M j) → lessL L M = false
  | [], _, _ => rfl
  | _ :: _, [], _ => rfl
  | v :: r, u :: s, h => by
    have h0 : v = u := h 0 (by simp)
    show (if v = u then _ else _) = _
    rw [if_pos h0]
    exact lessL_none (L := r) (M := s) (fun j hj => h (j + 1) (by simpa using hj))
theorem eq_of_at {L M : List V3} (hl : L.length = M.length) (h : ∀ j, j < L.length → vAt L j = vAt M j) : L = M := by
  apply List.ext_getElem hl
  intro i h1 h2
  have := h i h1
  rw [vAt_in h1, vAt_in h2] at this
  exact this
theorem ne_of_at {L M : List V3} {k : Nat} (h : vAt L k ≠ vAt M k) : L ≠ M := fun e => h (by rw [e])

theorem cmpS_zero (a b : ByteArray) : cmpS a b = 0 ↔ a.toList = b.toList := by
  unfold cmpS
  rcases bl_tri a.toList b.toList with ⟨h1, h2, h3⟩ | ⟨h1, h2⟩
  · rw [h2, h1]; simp
  · rcases h2 with ⟨h2, h3⟩ | ⟨h2, h3⟩
    · rw [h2]; simp [h1]
    · rw [h2]; simp [h1]
def cmpV (v u : V3) : Int := orI (cmpI v.K u.K) (cmpI v.N u.N) (cmpS v.S u.S)
theorem cmpV_zero (v u : V3) : cmpV v u = 0 ↔ v = u := by
  have h1 := (cmpI_neg v.K u.K).2
  have h2 := (cmpI_neg v.N u.N).2
  have h3 := cmpS_zero v.S u.S
  unfold cmpV orI
  constructor
  · intro h
    by_cases e1 : cmpI v.K u.K = 0
    · rw [e1] at h
      simp only [bne_self_eq_false, Bool.false_eq_true, if_false] at h
      by_cases e2 : cmpI v.N u.N = 0
      · rw [e2] at h
        simp only [bne_self_eq_false, Bool.false_eq_true, if_false] at h
        exact V3.ext' (h1.1 e1) (h2.1 e2) (toList_inj (h3.1 h))
      · rw [if_pos (by simpa using e2)] at h; exact absurd h e2
    · rw [if_pos (by simpa using e1)] at h; exact absurd h e1
  · rintro rfl
    rw [h1.2 rfl, h2.2 rfl, h3.2 rfl]; rfl
theorem cmpV_less (v u : V3) : decide (cmpV v u < 0) = v.less u := less_of _ _ _ _ _ _

/-- the compare of facts is below 0 just where one is less -/
theorem lessF_of (kd kd' : ByteArray) (L M : List V3) (r : Int) (hr : L.length = M.length → decide (r < 0) = lessL L M) :
    decide (orI (cmpS kd kd') (cmpI L.length M.length) r < 0) = lessF kd L kd' M := by
  have hz := cmpS_zero kd kd'
  have hn := cmpS_neg kd kd'
  unfold orI lessF
  by_cases e1 : kd.toList = kd'.toList
  · rw [hz.2 e1]
    simp only [bne_self_eq_false, Bool.false_eq_true, if_false, e1]
    rw [cmpI_bne]
    by_cases e2 : L.length = M.length
    · have : ((L.length : Int) != (M.length : Int)) = false := by simp [e2]
      rw [this]; exact hr e2
    · have : ((L.length : Int) != (M.length : Int)) = true := by simp; omega
      rw [this]
      simp only [if_true]
      exact decide_eq_decide.2 (cmpI_neg _ _).1
  · have h1 : (cmpS kd kd' != 0) = true := by simpa using fun h => e1 (hz.1 h)
    have h2 : (kd.toList != kd'.toList) = true := by simpa using e1
    rw [h1, h2]
    simp only [if_true]
    cases hb : Op.bytesLess kd.toList kd'.toList
    · rw [hb] at hn; simpa using hn
    · rw [hb] at hn; simpa using hn
end Go.Proofs.YtaflokfgbmlmaadDoor
/-
  Plainly: the Id of the first item with a fact.
-/
namespace Go.Proofs.YtaflokfgbmlmaadDoor
open Go.RowKit
set_option linter.unusedVariables false

def It.same (x : It) (kd : ByteArray) (M : List V3) : Bool := sameF x.kd x.L kd M
/-- the Id of the first item with this fact -/
def idP : List P4 → ByteArray → List V3 → Int
  | [], _, _ => 0
  | p :: r, kd, M => if sameF p.kd p.L kd M then p.id else idP r kd M
theorem idP_hit {kd : ByteArray} {M : List V3} : ∀ {J : List It} {k : Nat}, k < J.length → (∀ j, j < k → (iAt J j).same kd M = false) → (iAt J k).same kd M = true → idP (J.map It.pl) kd M = (iAt J k).id
  | [], k, h, _, _ => absurd h (Nat.not_lt_zero _)
  | x :: r, 0, h, _, hs => by
    have e : iAt (x :: r) 0 = x := rfl
    rw [e] at hs ⊢
    show (if sameF x.kd x.L kd M then _ else _) = _
    rw [show sameF x.kd x.L kd M = true from hs]; rfl
  | x :: r, k + 1, h, hn, hs => by
    have e : ∀ j, iAt (x :: r) (j + 1) = iAt r j := fun j => by simp [iAt, List.getD]
    have h0 := hn 0 (by omega)
    have e0 : iAt (x :: r) 0 = x := rfl
    rw [e0] at h0
    show (if sameF x.kd x.L kd M then _ else idP (r.map It.pl) kd M) = _
    rw [show sameF x.kd x.L kd M = false from h0, if_neg (by simp), e]
    rw [e] at hs
    exact idP_hit (by simpa using h) (fun j hj => by have := hn (j + 1) (by omega); rw [e] at this; exact this) hs
theorem idP_none {kd : ByteArray} {M : List V3} : ∀ {J : List It}, (∀ j, j < J.length → (iAt J j).same kd M = false) → idP (J.map It.pl) kd M = 0
  | [], _ => rfl
  | x :: r, hn => by
    have e : ∀ j, iAt (x :: r) (j + 1) = iAt r j := fun j => by simp [iAt, List.getD]
    have h0 := hn 0 (by simp)
    have e0 : iAt (x :: r) 0 = x := rfl
    rw [e0] at h0
    show (if sameF x.kd x.L kd M then _ else idP (r.map It.pl) kd M) = _
    rw [show sameF x.kd x.L kd M = false from h0, if_neg (by simp)]
    exact idP_none (fun j hj => by have := hn (j + 1) (by simpa using hj); rw [e] at this; exact this)
end Go.Proofs.YtaflokfgbmlmaadDoor
/-
  copy of values (three cells each), as one step of a region that draws its order.
-/
namespace Go.Proofs.YtaflokfgbmlmaadDoor
open Go.RowKit
set_option linter.unusedVariables false

theorem run_copy3 {P : Program} (w : World) (dT sT ty elem : TypeId) (g o dLen dCap : Nat) (a : Addr) (sLen sCap : Nat) (cur : Array Value) (t : TypeId) (cs : List Value)
    (hu : P.underlying dT = some (.slice elem)) (hs : (P.info? elem).map (·.size) = some 3)
    (hg : w.heap[g]? = some (.cells cur t (0, 0))) (hn : cs.length = Nat.min sLen dLen * 3)
    (hsrc : ∀ j v, cs[j]? = some v → w.cell? (a.add j) = some v) (hfit : o + cs.length ≤ cur.size) (h1 : ∀ v ∈ cs, v.oneCell' = true) :
    (Builtin.copy_ #[dT, sT] ty #[.slice (some ⟨g, o, none⟩) dLen dCap, .slice (some a) sLen sCap]).run P w =
      .ok (goInt (Nat.min sLen dLen)) (w.setRow g (cur.toList.take o ++ cs ++ cur.toList.drop (o + cs.length)).toArray) := by
  have hl := run_loadCells_list (P := P) w a cs hsrc
  have hst := run_storeCells_at P g o t cs 0 cur w hg (by simpa using hfit) h1
  cases hq : P.info? elem with
  | none => simp [hq] at hs
  | some i =>
    have hi : i.size = 3 := by simpa [hq] using hs
    simp [Builtin.copy_, run_underlying hu, Builtin.lenOf, Builtin.firstCells, sizeOf, typeInfo, hq, hi, ← hn, hl, hst]
theorem run_copy3_none {P : Program} (w : World) (dT sT ty elem : TypeId) (d a : Option Addr) (dLen dCap sLen sCap : Nat) (hu : P.underlying dT = some (.slice elem)) (hs : (P.info? elem).map (·.size) = some 3) (hn : Nat.min sLen dLen = 0) :
    (Builtin.copy_ #[dT, sT] ty #[.slice d dLen dCap, .slice a sLen sCap]).run P w = .ok (goInt 0) w := by
  cases hq : P.info? elem with
  | none => simp [hq] at hs
  | some i =>
    have hl : ∀ (x : Addr), (loadCells x 0).run P w = .ok #[] w := fun x => by simpa using run_loadCells_list (P := P) w x [] (by simp)
    cases d <;> cases a <;> simp [Builtin.copy_, run_underlying hu, Builtin.lenOf, Builtin.firstCells, sizeOf, typeInfo, hq, hn, storeCells, hl]

theorem step_copy3 {P : Program} {ops : Array Oper} {o : Oper} {a : Act} {w : World} {K : Act → World → Prop} {Q : Exit → Act → World → Prop} {E : Prop} (hgd : o.guard = none) (d s : Operand) (dT sT : TypeId)
    (ho : o.op = .call { callee := .builtin .copy, args := #[d, s], argTypes := #[dT, sT] }) (elem : TypeId) (hu : P.underlying dT = some (.slice elem)) (hsz : (P.info? elem).map (·.size) = some 3)
    (sp : Option Addr) (dLen dCap sLen sCap g off : Nat) (hd : a.eval d = .slice (some ⟨g, off, none⟩) dLen dCap) (hs : a.eval s = .slice sp sLen sCap)
    (cur : List Value) (t : TypeId) (hg : w.heap[g]? = some (.cells cur.toArray t (0, 0))) (cs : List Value) (hn : cs.length = Nat.min sLen dLen * 3)
    (hpos : 0 < cs.length → ∃ ad, sp = some ad ∧ ∀ j v, cs[j]? = some v → w.cell? (ad.add j) = some v)
    (hfit : off + cs.length ≤ cur.length) (h1 : ∀ v ∈ cs, v.oneCell' = true)
    (h : ∀ w', Hid (w'.heap[g]? = some (.cells (splice cur off cs).toArray t (0, 0))) → Hid (w.grownBy w' (some g)) → K (a.put o.dst (goInt (Nat.min sLen dLen))) w') :
    if Region.wanted o (yielded ops a.tmps) = true then Oper.wp P o a w K Q else E := by
  have hw : Region.wanted o (yielded ops a.tmps) = true := by simp [Region.wanted, hgd]
  rw [if_pos hw]
  by_cases h0 : cs.length = 0
  · obtain rfl : cs = [] := List.eq_nil_of_length_eq_zero h0
    have hm : Nat.min sLen dLen = 0 := by simp at hn; omega
    have hrun := run_copy3_none (P := P) w dT sT o.type elem (some ⟨g, off, none⟩) sp dLen dCap sLen sCap hu hsz hm
    unfold Oper.wp
    simp [execOp, ho, resolve, invoke, builtin, hd, hs, hrun, Result.andThen]
    have := h w (show _ = _ by simpa [splice] using hg) ⟨rfl, rfl, rfl, Nat.le_refl _, fun _ _ _ => rfl⟩
    rw [hm] at this
    exact this
  · obtain ⟨ad, rfl, hsrc⟩ := hpos (by omega)
    have hrun := run_copy3 (P := P) w dT sT o.type elem g off dLen dCap ad sLen sCap cur.toArray t cs hu hsz hg hn hsrc (by simpa using hfit) h1
    unfold Oper.wp
    simp [execOp, ho, resolve, invoke, builtin, hd, hs, hrun, Result.andThen]
    exact h _ (show _ = _ by simpa [splice] using setRow_heap w g _ _ t _ hg) ⟨rfl, rfl, rfl, by simp [World.setRow], fun k _ hk => by
      simp only [World.setRow]
      rw [Array.getElem?_modify]; exact if_neg (fun e => hk (by rw [e]))⟩
end Go.Proofs.YtaflokfgbmlmaadDoor
/-
  What fixed and fieldsBeyond answer: a kind and five values, those that lack being zero; and the values beyond five.
-/
namespace Go.Proofs.YtaflokfgbmlmaadDoor
open Go.RowKit
set_option linter.unusedVariables false

def zeroV : V3 := ⟨0, 0, ⟨#[]⟩⟩
/-- the first five, those that lack being zero -/
def pad5 (L : List V3) : List V3 := L.take 5 ++ List.replicate (5 - L.length) zeroV
theorem pad5_length (L : List V3) : (pad5 L).length = 5 := by unfold pad5; simp; omega
theorem list5 {L : List V3} (h : L.length = 5) : ∃ a b c d e, L = [a, b, c, d, e] := by
  match L, h with
  | [a, b, c, d, e], _ => exact ⟨a, b, c, d, e, rfl⟩
/-- the cells of a kind and five values -/
def cells16 (kd : ByteArray) (v0 v1 v2 v3 v4 : V3) : Array Value :=
  #[.string kd, .int .i64 v0.K, .int .i64 v0.N, .string v0.S, .int .i64 v1.K, .int .i64 v1.N, .string v1.S, .int .i64 v2.K, .int .i64 v2.N, .string v2.S, .int .i64 v3.K, .int .i64 v3.N, .string v3.S, .int .i64 v4.K, .int .i64 v4.N, .string v4.S]
def zero16 (kd : ByteArray) : List Value := .string kd :: cells3 (List.replicate 5 zeroV)
theorem splice16 (kd : ByteArray) (L : List V3) : splice (zero16 kd) 1 (cells3 (L.take 5)) = .string kd :: cells3 (pad5 L) := by
  have hl := cells3_length (L.take 5)
  unfold splice zero16 pad5
  rw [cells3_append, hl, Nat.add_comm 1, List.take_succ_cons, List.take_zero, List.drop_succ_cons]
  show .string kd :: (cells3 (L.take 5) ++ _) = _
  congr 2
  have e : ∀ n k : Nat, (cells3 (List.replicate n zeroV)).drop (k * 3) = cells3 (List.replicate (n - k) zeroV) := by
    intro n k
    induction k generalizing n with
    | zero => simp
    | succ k ih =>
      cases n with
      | zero => simp [cells3]
      | succ n =>
        have h3 : cells3 (List.replicate (n + 1) zeroV) = .int .i64 0 :: .int .i64 0 :: .string ⟨#[]⟩ :: cells3 (List.replicate n zeroV) := by simp [List.replicate_succ, cells3, zeroV]
        rw [h3, show (k + 1) * 3 = k * 3 + 1 + 1 + 1 by omega, List.drop_succ_cons, List.drop_succ_cons, List.drop_succ_cons, ih]
        congr 2; omega
  rw [e, List.length_take]
  congr 2; omega
theorem one3 {L : List V3} : ∀ v ∈ cells3 L, v.oneCell' = true := by
  intro v hv
  obtain ⟨u, _, hu⟩ := List.mem_flatMap.1 hv
  simp only [List.mem_cons, List.not_mem_nil, or_false] at hu
  rcases hu with rfl | rfl | rfl <;> rfl
theorem src3 {w : World} {p : Addr} {L : List V3} (hr : RdV w (some p) L) (m : Nat) : ∀ j v, (cells3 (L.take m))[j]? = some v → w.cell? (p.add j) = some v := by
  intro j v hj
  have hlt : j < (cells3 (L.take m)).length := (List.getElem?_eq_some_iff.1 hj).1
  rw [cells3_length] at hlt
  obtain ⟨i, r, rfl, hr3⟩ : ∃ i r, j = i * 3 + r ∧ r < 3 := ⟨j / 3, j % 3, by omega, by omega⟩
  have hi : i < (L.take m).length := by omega
  have hi2 : i < L.length := by simp at hi; omega
  obtain ⟨g0, g1, g2⟩ := cells3_get (L.take m) i hi
  have ev : vAt (L.take m) i = vAt L i := by rw [vAt_in hi, vAt_in hi2]; simp
  rw [ev] at g0 g1 g2
  obtain ⟨b, off, e, h0, h1, h2⟩ := hr i hi2
  simp only [Option.some.injEq] at e
  subst e
  rw [Addr.add_lit]
  match r, hr3 with
  | 0, _ => rw [Nat.add_zero, g0] at hj; rw [Nat.add_zero, h0]; exact hj
  | 1, _ => rw [g1] at hj; rw [← Nat.add_assoc, h1]; exact hj
  | 2, _ => rw [g2] at hj; rw [← Nat.add_assoc, h2]; exact hj

def setAll (w : World) (q : Nat) : Nat → List Value → World
  | _, [] => w
  | i, v :: r => setAll (w.setCell ⟨q, i, none⟩ v) q (i + 1) r
theorem setAll_heap (q : Nat) (T : TypeId) : ∀ (vs pre : List Value) (w : World) (rest : List Value), w.heap[q]? = some (.cells (pre ++ rest).toArray T (0, 0)) → rest.length = vs.length →
    (setAll w q pre.length vs).heap[q]? = some (.cells (pre ++ vs).toArray T (0, 0)) ∧ w.grownBy (setAll w q pre.length vs) (some q)
  | [], pre, w, rest, h, hl => by
    obtain rfl : rest = [] := List.eq_nil_of_length_eq_zero (by simpa using hl)
    exact ⟨h, ⟨rfl, rfl, rfl, Nat.le_refl _, fun _ _ _ => rfl⟩⟩
  | v :: vs, pre, w, [], h, hl => by simp at hl
  | v :: vs, pre, w, x :: rest, h, hl => by
    have h1 : (w.setCell ⟨q, pre.length, none⟩ v).heap[q]? = some (.cells ((pre ++ [v]) ++ rest).toArray T (0, 0)) := by
      rw [heap_setCell_same w q pre.length _ T v h]
      simp
    have ih := setAll_heap q T vs (pre ++ [v]) (w.setCell ⟨q, pre.length, none⟩ v) rest h1 (by simpa using hl)
    rw [List.length_append, List.length_cons, List.length_nil, List.append_assoc] at ih
    refine ⟨ih.1, ?_⟩
    obtain ⟨g1, g2, g3, g4, g5⟩ := ih.2
    exact ⟨g1, g2, g3, Nat.le_trans (by simp [World.setCell]) g4, fun k hk hne => (g5 k (by simpa [World.setCell] using hk) hne).trans (heap_setCell_other w ⟨q, pre.length, none⟩ k v (fun e => hne (by rw [e])))⟩

theorem cells16_get {w : World} {q : Nat} {T : TypeId} {kd : ByteArray} {v0 v1 v2 v3 v4 : V3} (h : w.heap[q]? = some (.cells (cells16 kd v0 v1 v2 v3 v4) T (0, 0))) :
    w.cell? ⟨q, 0, none⟩ = some (.string kd) ∧ w.cell? ⟨q, 1, none⟩ = some (.int .i64 v0.K) ∧ w.cell? ⟨q, 2, none⟩ = some (.int .i64 v0.N) ∧ w.cell? ⟨q, 3, none⟩ = some (.string v0.S) ∧ w.cell? ⟨q, 4, none⟩ = some (.int .i64 v1.K) ∧ w.cell? ⟨q, 5, none⟩ = some (.int .i64 v1.N) ∧ w.cell? ⟨q, 6, none⟩ = some (.string v1.S) ∧ w.cell? ⟨q, 7, none⟩ = some (.int .i64 v2.K) ∧ w.cell? ⟨q, 8, none⟩ = some (.int .i64 v2.N) ∧ w.cell? ⟨q, 9, none⟩ = some (.string v2.S) ∧ w.cell? ⟨q, 10, none⟩ = some (.int .i64 v3.K) ∧ w.cell? ⟨q, 11, none⟩ = some (.int .i64 v3.N) ∧ w.cell? ⟨q, 12, none⟩ = some (.string v3.S) ∧ w.cell? ⟨q, 13, none⟩ = some (.int .i64 v4.K) ∧ w.cell? ⟨q, 14, none⟩ = some (.int .i64 v4.N) ∧ w.cell? ⟨q, 15, none⟩ = some (.string v4.S) := by
  refine ⟨?_, ?_, ?_, ?_, ?_, ?_, ?_, ?_, ?_, ?_, ?_, ?_, ?_, ?_, ?_, ?_⟩
  · rw [cell_of_row w q 0 _ T (0, 0) h]; rfl
  · rw [cell_of_row w q 1 _ T (0, 0) h]; rfl
  · rw [cell_of_row w q 2 _ T (0, 0) h]; rfl
  · rw [cell_of_row w q 3 _ T (0, 0) h]; rfl
  · rw [cell_of_row w q 4 _ T (0, 0) h]; rfl
  · rw [cell_of_row w q 5 _ T (0, 0) h]; rfl
  · rw [cell_of_row w q 6 _ T (0, 0) h]; rfl
  · rw [cell_of_row w q 7 _ T (0, 0) h]; rfl
  · rw [cell_of_row w q 8 _ T (0, 0) h]; rfl
  · rw [cell_of_row w q 9 _ T (0, 0) h]; rfl
  · rw [cell_of_row w q 10 _ T (0, 0) h]; rfl
  · rw [cell_of_row w q 11 _ T (0, 0) h]; rfl
  · rw [cell_of_row w q 12 _ T (0, 0) h]; rfl
  · rw [cell_of_row w q 13 _ T (0, 0) h]; rfl
  · rw [cell_of_row w q 14 _ T (0, 0) h]; rfl
  · rw [cell_of_row w q 15 _ T (0, 0) h]; rfl
theorem cells16_free {w : World} {q : Nat} {T : TypeId} {kd : ByteArray} {v0 v1 v2 v3 v4 : V3} (h : w.heap[q]? = some (.cells (cells16 kd v0 v1 v2 v3 v4) T (0, 0))) :
    w.frozen? ⟨q, 0, none⟩ = false ∧ w.frozen? ⟨q, 1, none⟩ = false ∧ w.frozen? ⟨q, 2, none⟩ = false ∧ w.frozen? ⟨q, 3, none⟩ = false ∧ w.frozen? ⟨q, 4, none⟩ = false ∧ w.frozen? ⟨q, 5, none⟩ = false ∧ w.frozen? ⟨q, 6, none⟩ = false ∧ w.frozen? ⟨q, 7, none⟩ = false ∧ w.frozen? ⟨q, 8, none⟩ = false ∧ w.frozen? ⟨q, 9, none⟩ = false ∧ w.frozen? ⟨q, 10, none⟩ = false ∧ w.frozen? ⟨q, 11, none⟩ = false ∧ w.frozen? ⟨q, 12, none⟩ = false ∧ w.frozen? ⟨q, 13, none⟩ = false ∧ w.frozen? ⟨q, 14, none⟩ = false ∧ w.frozen? ⟨q, 15, none⟩ = false :=
  ⟨frozen_of_row w q 0 _ T h, frozen_of_row w q 1 _ T h, frozen_of_row w q 2 _ T h, frozen_of_row w q 3 _ T h, frozen_of_row w q 4 _ T h, frozen_of_row w q 5 _ T h, frozen_of_row w q 6 _ T h, frozen_of_row w q 7 _ T h, frozen_of_row w q 8 _ T h, frozen_of_row w q 9 _ T h, frozen_of_row w q 10 _ T h, frozen_of_row w q 11 _ T h, frozen_of_row w q 12 _ T h, frozen_of_row w q 13 _ T h, frozen_of_row w q 14 _ T h, frozen_of_row w q 15 _ T h⟩
theorem cells16_list (kd : ByteArray) (v0 v1 v2 v3 v4 : V3) : (Value.string kd :: cells3 [v0, v1, v2, v3, v4]).toArray = cells16 kd v0 v1 v2 v3 v4 := by simp [cells3, cells16]

theorem Tryd.infoV : (Tryd.prog.info? 85).map (·.size) = some 3 := by kernel_rfl

set_option maxRecDepth 100000 in
set_option maxHeartbeats 3200000 in
theorem fixed_any (kd : ByteArray) (a : Option Addr) (cap : Nat) (L : List V3) (v0 v1 v2 v3 v4 : V3) (w : World) (hr : RdV w a L) (hn : L.length ≤ 1048580) (hp : pad5 L = [v0, v1, v2, v3, v4]) :
    Calls Tryd.prog 52 #[.agg #[.string kd, .slice a L.length cap]] w fun e w' =>
      e = .returned (.agg (cells16 kd v0 v1 v2 v3 v4)) ∧ Below w.heap.size w w' := by
  have b0 := below_al w (.cells #[.string kd, .slice a L.length cap] 41)
  have b1 := b0.alloc b0.size (.cells #[.string ⟨#[]⟩, .int .i64 0, .int .i64 0, .string ⟨#[]⟩, .int .i64 0, .int .i64 0, .string ⟨#[]⟩, .int .i64 0, .int .i64 0, .string ⟨#[]⟩, .int .i64 0, .int .i64 0, .string ⟨#[]⟩, .int .i64 0, .int .i64 0, .string ⟨#[]⟩] 88)
  have b2 := b1.alloc b1.size (.cells #[.string kd, .int .i64 0, .int .i64 0, .string ⟨#[]⟩, .int .i64 0, .int .i64 0, .string ⟨#[]⟩, .int .i64 0, .int .i64 0, .string ⟨#[]⟩, .int .i64 0, .int .i64 0, .string ⟨#[]⟩, .int .i64 0, .int .i64 0, .string ⟨#[]⟩] 88)
  have hX := box_old (box_old (box2_new w (.string kd) (.slice a L.length cap) 41) (by simp) (.cells #[.string ⟨#[]⟩, .int .i64 0, .int .i64 0, .string ⟨#[]⟩, .int .i64 0, .int .i64 0, .string ⟨#[]⟩, .int .i64 0, .int .i64 0, .string ⟨#[]⟩, .int .i64 0, .int .i64 0, .string ⟨#[]⟩, .int .i64 0, .int .i64 0, .string ⟨#[]⟩] 88)) (by simp; omega) (.cells #[.string kd, .int .i64 0, .int .i64 0, .string ⟨#[]⟩, .int .i64 0, .int .i64 0, .string ⟨#[]⟩, .int .i64 0, .int .i64 0, .string ⟨#[]⟩, .int .i64 0, .int .i64 0, .string ⟨#[]⟩, .int .i64 0, .int .i64 0, .string ⟨#[]⟩] 88)
  have hR := box_old (heap_alloc_new (w.alloc (.cells #[.string kd, .slice a L.length cap] 41)) (.cells #[.string ⟨#[]⟩, .int .i64 0, .int .i64 0, .string ⟨#[]⟩, .int .i64 0, .int .i64 0, .string ⟨#[]⟩, .int .i64 0, .int .i64 0, .string ⟨#[]⟩, .int .i64 0, .int .i64 0, .string ⟨#[]⟩, .int .i64 0, .int .i64 0, .string ⟨#[]⟩] 88)) (by simp) (.cells #[.string kd, .int .i64 0, .int .i64 0, .string ⟨#[]⟩, .int .i64 0, .int .i64 0, .string ⟨#[]⟩, .int .i64 0, .int .i64 0, .string ⟨#[]⟩, .int .i64 0, .int .i64 0, .string ⟨#[]⟩, .int .i64 0, .int .i64 0, .string ⟨#[]⟩] 88)
  have hG := heap_alloc_new ((w.alloc (.cells #[.string kd, .slice a L.length cap] 41)).alloc (.cells #[.string ⟨#[]⟩, .int .i64 0, .int .i64 0, .string ⟨#[]⟩, .int .i64 0, .int .i64 0, .string ⟨#[]⟩, .int .i64 0, .int .i64 0, .string ⟨#[]⟩, .int .i64 0, .int .i64 0, .string ⟨#[]⟩, .int .i64 0, .int .i64 0, .string ⟨#[]⟩] 88)) (.cells #[.string kd, .int .i64 0, .int .i64 0, .string ⟨#[]⟩, .int .i64 0, .int .i64 0, .string ⟨#[]⟩, .int .i64 0, .int .i64 0, .string ⟨#[]⟩, .int .i64 0, .int .i64 0, .string ⟨#[]⟩, .int .i64 0, .int .i64 0, .string ⟨#[]⟩] 88)
  have hr2 := hr.below b2
  simp only [World.size_alloc] at hR hG
  clear b0 b1 hr
  go_enter Tryd.func52, Tryd.ntmps52
  go_wp2_with fail
  generalize ((w.alloc (.cells #[.string kd, .slice a L.length cap] 41)).alloc (.cells #[.string ⟨#[]⟩, .int .i64 0, .int .i64 0, .string ⟨#[]⟩, .int .i64 0, .int .i64 0, .string ⟨#[]⟩, .int .i64 0, .int .i64 0, .string ⟨#[]⟩, .int .i64 0, .int .i64 0, .string ⟨#[]⟩, .int .i64 0, .int .i64 0, .string ⟨#[]⟩] 88)).alloc (.cells #[.string kd, .int .i64 0, .int .i64 0, .string ⟨#[]⟩, .int .i64 0, .int .i64 0, .string ⟨#[]⟩, .int .i64 0, .int .i64 0, .string ⟨#[]⟩, .int .i64 0, .int .i64 0, .string ⟨#[]⟩, .int .i64 0, .int .i64 0, .string ⟨#[]⟩] 88) = w3 at hX hR hG hr2 b2 ⊢
  have HX := hide hX
  have HR := hide (show w3.heap[w.heap.size + 1]? = some (.cells (cells16 ⟨#[]⟩ zeroV zeroV zeroV zeroV zeroV) 88 (0, 0)) from hR)
  have HG := hide (show w3.heap[w.heap.size + 1 + 1]? = some (.cells (zero16 kd).toArray 88 (0, 0)) from hG)
  have hz : w.heap.size + 1 + 1 < w3.heap.size := (Array.getElem?_eq_some_iff.1 hG).1
  clear hX hR hG
  obtain ⟨x0, x1, -, -⟩ := box2_cell HX.out
  obtain ⟨g0, g1, -⟩ := cells16_get (show w3.heap[w.heap.size + 1 + 1]? = some (.cells (cells16 kd zeroV zeroV zeroV zeroV zeroV) 88 (0, 0)) from HG.out)
  have h1 : (cells3 (L.take 5)).length = Nat.min L.length 5 * 3 := by rw [cells3_length, List.length_take, Nat.min_comm]
  have h2 : 0 < (cells3 (L.take 5)).length → ∃ ad, a = some ad ∧ ∀ j v, (cells3 (L.take 5))[j]? = some v → w3.drew.cell? (ad.add j) = some v := by
    intro hpos
    rw [cells3_length, List.length_take] at hpos
    obtain ⟨b, off, e, _⟩ := hr2.open (by omega)
    refine ⟨⟨b, off, none⟩, e, fun j v hj => ?_⟩
    rw [e] at hr2
    exact src3 hr2 5 j v hj
  have h3 : 1 + (cells3 (L.take 5)).length ≤ (zero16 kd).length := by
    rw [cells3_length, List.length_take]
    show _ ≤ (Value.string kd :: cells3 (List.replicate 5 zeroV)).length
    rw [List.length_cons, cells3_length, List.length_replicate]; omega
  have H1 := hide h1
  have H2 := hide h2
  have H3 := hide h3
  clear h1 h2 h3
  go_region_law (refine step_copy3 rfl (.tmp 8) (.tmp 10) 39 39 rfl 85 Tryd.underlying39 Tryd.infoV a 5 5 L.length cap (w.heap.size + 1 + 1) 1 (by simp [Act.eval]) (by simp [Act.eval]) (zero16 kd) 88 HG.out (cells3 (L.take 5)) H1.out H2.out H3.out one3 ?_; intro w4 HG4 HW4)
  all_goals
    have HG5 : Hid (w4.heap[w.heap.size + 1 + 1]? = some (.cells (cells16 kd v0 v1 v2 v3 v4) 88 (0, 0))) := by
      have := HG4.out
      rw [splice16, hp, cells16_list] at this
      exact this
    have HR4 := hide (box_gr (w := w3.drew) HR.out HW4.out (by omega))
    have hB4 : Below w.heap.size w w4 := b2.drew.grown HW4.out b2.size (fun k hk => by cases hk; omega)
    clear HG4 HW4 HX HR HG H1 H2 H3 x0 x1 g0 g1 b2 hr2
    obtain ⟨g0, g1, g2, g3, g4, g5, g6, g7, g8, g9, g10, g11, g12, g13, g14, g15⟩ := cells16_get HG5.out
    obtain ⟨r0, r1, r2, r3, r4, r5, r6, r7, r8, r9, r10, r11, r12, r13, r14, r15⟩ := cells16_get HR4.out
    obtain ⟨f0, f1, f2, f3, f4, f5, f6, f7, f8, f9, f10, f11, f12, f13, f14, f15⟩ := cells16_free HR4.out
    go_wp2
    have h9 := setAll_heap (w.heap.size + 1) 88 [.string kd, .int .i64 v0.K, .int .i64 v0.N, .string v0.S, .int .i64 v1.K, .int .i64 v1.N, .string v1.S, .int .i64 v2.K, .int .i64 v2.N, .string v2.S, .int .i64 v3.K, .int .i64 v3.N, .string v3.S, .int .i64 v4.K, .int .i64 v4.N, .string v4.S] [] w4 (cells16 ⟨#[]⟩ zeroV zeroV zeroV zeroV zeroV).toList HR4.out rfl
    refine (show bodyPost _ _ _ _ _ (setAll w4 (w.heap.size + 1) 0 [.string kd, .int .i64 v0.K, .int .i64 v0.N, .string v0.S, .int .i64 v1.K, .int .i64 v1.N, .string v1.S, .int .i64 v2.K, .int .i64 v2.N, .string v2.S, .int .i64 v3.K, .int .i64 v3.N, .string v3.S, .int .i64 v4.K, .int .i64 v4.N, .string v4.S]) from ?_)
    generalize setAll w4 (w.heap.size + 1) 0 [.string kd, .int .i64 v0.K, .int .i64 v0.N, .string v0.S, .int .i64 v1.K, .int .i64 v1.N, .string v1.S, .int .i64 v2.K, .int .i64 v2.N, .string v2.S, .int .i64 v3.K, .int .i64 v3.N, .string v3.S, .int .i64 v4.K, .int .i64 v4.N, .string v4.S] = w5 at h9 ⊢
    obtain ⟨h9, gr⟩ := h9
    clear g0 g1 g2 g3 g4 g5 g6 g7 g8 g9 g10 g11 g12 g13 g14 g15 r0 r1 r2 r3 r4 r5 r6 r7 r8 r9 r10 r11 r12 r13 r14 r15 f0 f1 f2 f3 f4 f5 f6 f7 f8 f9 f10 f11 f12 f13 f14 f15
    obtain ⟨c0, c1, c2, c3, c4, c5, c6, c7, c8, c9, c10, c11, c12, c13, c14, c15⟩ := cells16_get (show w5.heap[w.heap.size + 1]? = some (.cells (cells16 kd v0 v1 v2 v3 v4) 88 (0, 0)) from h9)
    exact bodyPost_ret (v := .agg (cells16 kd v0 v1 v2 v3 v4)) (by simp [results, Tryd.results52, go_sem, c0, c1, c2, c3, c4, c5, c6, c7, c8, c9, c10, c11, c12, c13, c14, c15, cells16]) rfl ⟨rfl, below_set hB4 gr (by omega)⟩
end Go.Proofs.YtaflokfgbmlmaadDoor
/-
  Five values held against five: the same just where each is.
-/
namespace Go.Proofs.YtaflokfgbmlmaadDoor
open Go.RowKit
set_option linter.unusedVariables false
set_option maxRecDepth 100000

theorem eqV (v u : V3) (w : World) : (Op.equalIn 9998 85 (.agg #[.int .i64 v.K, .int .i64 v.N, .string v.S]) (.agg #[.int .i64 u.K, .int .i64 u.N, .string u.S])).run Tryd.prog w = .ok (decide (v = u)) w := by
  rcases v3_cases v u with rfl | ⟨hne, hv⟩
  · have k1 : (v.K == v.K) = true := by simp
    have k2 : (v.N == v.N) = true := by simp
    have k3 : (v.S.toList == v.S.toList) = true := by simp
    rw [decide_eq_true rfl]
    go_simp
  · rw [decide_eq_false hne]
    clear hne
    rcases hv with k1 | ⟨k1, k2⟩ | ⟨k1, k2, k3⟩ <;> go_simp
theorem part0 (v0 v1 v2 v3 v4 : V3) (w : World) : (part 85 #[.int .i64 v0.K, .int .i64 v0.N, .string v0.S, .int .i64 v1.K, .int .i64 v1.N, .string v1.S, .int .i64 v2.K, .int .i64 v2.N, .string v2.S, .int .i64 v3.K, .int .i64 v3.N, .string v3.S, .int .i64 v4.K, .int .i64 v4.N, .string v4.S] (0 * 3)).run Tryd.prog w = .ok (.agg #[.int .i64 v0.K, .int .i64 v0.N, .string v0.S]) w := by go_simp
theorem part1 (v0 v1 v2 v3 v4 : V3) (w : World) : (part 85 #[.int .i64 v0.K, .int .i64 v0.N, .string v0.S, .int .i64 v1.K, .int .i64 v1.N, .string v1.S, .int .i64 v2.K, .int .i64 v2.N, .string v2.S, .int .i64 v3.K, .int .i64 v3.N, .string v3.S, .int .i64 v4.K, .int .i64 v4.N, .string v4.S] (1 * 3)).run Tryd.prog w = .ok (.agg #[.int .i64 v1.K, .int .i64 v1.N, .string v1.S]) w := by go_simp
theorem part2 (v0 v1 v2 v3 v4 : V3) (w : World) : (part 85 #[.int .i64 v0.K, .int .i64 v0.N, .string v0.S, .int .i64 v1.K, .int .i64 v1.N, .string v1.S, .int .i64 v2.K, .int .i64 v2.N, .string v2.S, .int .i64 v3.K, .int .i64 v3.N, .string v3.S, .int .i64 v4.K, .int .i64 v4.N, .string v4.S] (2 * 3)).run Tryd.prog w = .ok (.agg #[.int .i64 v2.K, .int .i64 v2.N, .string v2.S]) w := by go_simp
theorem part3 (v0 v1 v2 v3 v4 : V3) (w : World) : (part 85 #[.int .i64 v0.K, .int .i64 v0.N, .string v0.S, .int .i64 v1.K, .int .i64 v1.N, .string v1.S, .int .i64 v2.K, .int .i64 v2.N, .string v2.S, .int .i64 v3.K, .int .i64 v3.N, .string v3.S, .int .i64 v4.K, .int .i64 v4.N, .string v4.S] (3 * 3)).run Tryd.prog w = .ok (.agg #[.int .i64 v3.K, .int .i64 v3.N, .string v3.S]) w := by go_simp
theorem part4 (v0 v1 v2 v3 v4 : V3) (w : World) : (part 85 #[.int .i64 v0.K, .int .i64 v0.N, .string v0.S, .int .i64 v1.K, .int .i64 v1.N, .string v1.S, .int .i64 v2.K, .int .i64 v2.N, .string v2.S, .int .i64 v3.K, .int .i64 v3.N, .string v3.S, .int .i64 v4.K, .int .i64 v4.N, .string v4.S] (4 * 3)).run Tryd.prog w = .ok (.agg #[.int .i64 v4.K, .int .i64 v4.N, .string v4.S]) w := by go_simp
theorem same5 (v0 v1 v2 v3 v4 u0 u1 u2 u3 u4 : V3) : decide ([v0, v1, v2, v3, v4] = [u0, u1, u2, u3, u4]) = (decide (v0 = u0) && (decide (v1 = u1) && (decide (v2 = u2) && (decide (v3 = u3) && decide (v4 = u4))))) := by
  simp [Bool.decide_and]
theorem eq15 (v0 v1 v2 v3 v4 u0 u1 u2 u3 u4 : V3) (w : World) :
    (Op.equalIn 9999 86 (.agg #[.int .i64 v0.K, .int .i64 v0.N, .string v0.S, .int .i64 v1.K, .int .i64 v1.N, .string v1.S, .int .i64 v2.K, .int .i64 v2.N, .string v2.S, .int .i64 v3.K, .int .i64 v3.N, .string v3.S, .int .i64 v4.K, .int .i64 v4.N, .string v4.S]) (.agg #[.int .i64 u0.K, .int .i64 u0.N, .string u0.S, .int .i64 u1.K, .int .i64 u1.N, .string u1.S, .int .i64 u2.K, .int .i64 u2.N, .string u2.S, .int .i64 u3.K, .int .i64 u3.N, .string u3.S, .int .i64 u4.K, .int .i64 u4.N, .string u4.S])).run Tryd.prog w = .ok (decide ([v0, v1, v2, v3, v4] = [u0, u1, u2, u3, u4])) w := by
  obtain ⟨i0, hi, -, -, -⟩ := info_parts Tryd.info85
  rw [show (9999 : Nat) = 9998 + 1 from rfl, run_equalIn_array w 9998 _ _ Tryd.underlying86 hi, show Tryd.prog.cellsOf 85 = 3 by kernel_rfl, show List.range 5 = [0, 1, 2, 3, 4] from rfl, same5]
  simp only [Op.eqItems, Sem.run_bind, part0, eqV, Result.andThen_ok]
  cases decide (v0 = u0) <;> simp only [Bool.not_false, Bool.not_true, if_true, Bool.false_eq_true, if_false, Sem.run_pure, Bool.false_and, Bool.true_and, Sem.run_bind, part1, eqV, Result.andThen_ok]
  cases decide (v1 = u1) <;> simp only [Bool.not_false, Bool.not_true, if_true, Bool.false_eq_true, if_false, Sem.run_pure, Bool.false_and, Bool.true_and, Sem.run_bind, part2, eqV, Result.andThen_ok]
  cases decide (v2 = u2) <;> simp only [Bool.not_false, Bool.not_true, if_true, Bool.false_eq_true, if_false, Sem.run_pure, Bool.false_and, Bool.true_and, Sem.run_bind, part3, eqV, Result.andThen_ok]
  cases decide (v3 = u3) <;> simp only [Bool.not_false, Bool.not_true, if_true, Bool.false_eq_true, if_false, Sem.run_pure, Bool.false_and, Bool.true_and, Sem.run_bind, part4, eqV, Result.andThen_ok]
  cases decide (v4 = u4) <;> simp only [Bool.not_false, Bool.not_true, if_true, Bool.false_eq_true, if_false, Sem.run_pure]
end Go.Proofs.YtaflokfgbmlmaadDoor
/-
  What the sameness of facts answers, the model's and the tested one alike: sameF.
-/
namespace Go.Proofs.YtaflokfgbmlmaadDoor
open Go.RowKit
set_option linter.unusedVariables false

theorem below_dn {w u : World} {n : Nat} (k : Below (w.drewN n).heap.size (w.drewN n) u) : Below w.heap.size w u :=
  (show Below w.heap.size w (w.drewN n) from ⟨rfl, rfl, rfl, Nat.le_refl _, fun _ _ => rfl⟩).trans k

set_option maxRecDepth 100000 in
set_option maxHeartbeats 1600000 in
theorem sameVals_any (a b : Option Addr) (ca cb : Nat) (L M : List V3) (w : World) (hr : RdV w a L) (hq : RdV w b M) (hn : L.length ≤ 1048580) (hm : M.length ≤ 1048580) :
    Calls Tryd.prog 82 #[.slice a L.length ca, .slice b M.length cb] w fun e w' =>
      e = .returned (.bool (decide (L = M))) ∧ Below w.heap.size w w' := by
  by_cases hlm : L.length = M.length
  · obtain ⟨n, hN⟩ : ∃ n, n = L.length := ⟨_, rfl⟩
    rw [← hlm, ← hN]
    rw [← hN] at hn
    have HN := hide hN
    have HM := hide (hN.trans hlm)
    clear hN hlm hm
    have h2 : ((n : Int) != (n : Int)) = false := by simp
    go_enter Tryd.func82, Tryd.ntmps82
    go_wp2
    go_loopw [5] (fun i wr => ∃ (k nd : Nat), k ≤ n ∧ i = .int .i64 k ∧ wr = w.drewN nd ∧ (∀ j, j < k → vAt L j = vAt M j)) (fun i _ => n - (intOf i).toNat)
    case atStart => exact ⟨0, 0, Nat.zero_le _, rfl, rfl, fun j hj => absurd hj (Nat.not_lt_zero _)⟩
    case round =>
      obtain ⟨k, nd, hk, rfl, rfl, hall⟩ := hrel
      have HA := hide hall
      clear hall
      by_cases hlt : k < n
      · obtain ⟨b1, o1, e1, -, hc1⟩ := hr.open (by rw [← HN.out]; omega)
        obtain ⟨b2, o2, e2, -, hc2⟩ := hq.open (by rw [← HM.out]; omega)
        obtain ⟨c0, c1, c2⟩ := hc1 k (by rw [← HN.out]; exact hlt)
        obtain ⟨d0, d1, d2⟩ := hc2 k (by rw [← HM.out]; exact hlt)
        have l1 : (k : Int) < (n : Int) := by omega
        clear hc1 hc2
        subst e1 e2
        rcases v3_cases (vAt L k) (vAt M k) with hv | ⟨hne, hv⟩
        · have HV := hide hv
          rw [← hv] at d0 d1 d2
          clear hv
          have k1 : ((vAt L k).K == (vAt L k).K) = true := by simp
          have k2 : ((vAt L k).N == (vAt L k).N) = true := by simp
          have k3 : ((vAt L k).S.toList == (vAt L k).S.toList) = true := by simp
          go_wp2
          go_quiet (fail)
          go_wp2
          go_roundw
          case rel => exact ⟨k + 1, _, by omega, by go_num, rfl, fun j hj => by
            by_cases hjk : j = k
            · rw [hjk]; exact HV.out
            · exact HA.out j (by omega)⟩
          case measure => simp [intOf]; omega
        · have HE : Hid (decide (L = M) = false) := decide_eq_false (ne_of_at hne)
          clear hne
          rcases hv with k1 | ⟨k1, k2⟩ | ⟨k1, k2, k3⟩
          all_goals
            go_wp2
            go_quiet (fail)
            go_wp2
            go_ret
            exact ⟨ret_bool HE.out.symm, below_dn (below_dn (Below.refl _ _))⟩
      · have HE : Hid (decide (L = M) = true) := decide_eq_true (eq_of_at (HN.out.symm.trans HM.out) (fun j hj => HA.out j (by rw [← HN.out] at hj; omega)))
        go_wp2
        go_ret
        exact ⟨ret_bool HE.out.symm, below_dn (Below.refl _ _)⟩
  · have HE : Hid (decide (L = M) = false) := decide_eq_false (fun e => hlm (by rw [e]))
    have h2 : ((L.length : Int) != (M.length : Int)) = true := by simp; omega
    go_enter Tryd.func82, Tryd.ntmps82
    go_wp2
    go_ret
    exact ⟨ret_bool HE.out.symm, Below.refl _ _⟩

set_option maxRecDepth 100000 in
set_option maxHeartbeats 1600000 in
theorem equalVals_any (a b : Option Addr) (ca cb : Nat) (L M : List V3) (w : World) (hr : RdV w a L) (hq : RdV w b M) (hn : L.length ≤ 1048580) (hm : M.length ≤ 1048580) :
    Calls Tryd.prog 53 #[.slice a L.length ca, .slice b M.length cb] w fun e w' =>
      e = .returned (.bool (decide (L = M))) ∧ Below w.heap.size w w' := by
  by_cases hlm : L.length = M.length
  · obtain ⟨n, hN⟩ : ∃ n, n = L.length := ⟨_, rfl⟩
    rw [← hlm, ← hN]
    rw [← hN] at hn
    have HN := hide hN
    have HM := hide (hN.trans hlm)
    clear hN hlm hm
    have h2 : ((n : Int) != (n : Int)) = false := by simp
    go_enter Tryd.func53, Tryd.ntmps53
    go_wp2
    go_loopw [13] (fun i wr => ∃ (k nd : Nat), k ≤ n ∧ i = .int .i64 k ∧ wr = w.drewN nd ∧ (∀ j, j < k → vAt L j = vAt M j)) (fun i _ => n - (intOf i).toNat)
    case atStart => exact ⟨0, 0, Nat.zero_le _, rfl, rfl, fun j hj => absurd hj (Nat.not_lt_zero _)⟩
    case round =>
      obtain ⟨k, nd, hk, rfl, rfl, hall⟩ := hrel
      have HA := hide hall
      clear hall
      by_cases hlt : k < n
      · obtain ⟨b1, o1, e1, -, hc1⟩ := hr.open (by rw [← HN.out]; omega)
        obtain ⟨b2, o2, e2, -, hc2⟩ := hq.open (by rw [← HM.out]; omega)
        obtain ⟨c0, c1, c2⟩ := hc1 k (by rw [← HN.out]; exact hlt)
        obtain ⟨d0, d1, d2⟩ := hc2 k (by rw [← HM.out]; exact hlt)
        have l1 : (k : Int) < (n : Int) := by omega
        clear hc1 hc2
        subst e1 e2
        rcases v3_cases (vAt L k) (vAt M k) with hv | ⟨hne, hv⟩
        · have HV := hide hv
          rw [← hv] at d0 d1 d2
          clear hv
          have k1 : ((vAt L k).K == (vAt L k).K) = true := by simp
          have k2 : ((vAt L k).N == (vAt L k).N) = true := by simp
          have k3 : ((vAt L k).S.toList == (vAt L k).S.toList) = true := by simp
          go_wp2
          go_quiet (fail)
          go_wp2
          go_roundw
          case rel => exact ⟨k + 1, _, by omega, by go_num, rfl, fun j hj => by
            by_cases hjk : j = k
            · rw [hjk]; exact HV.out
            · exact HA.out j (by omega)⟩
          case measure => simp [intOf]; omega
        · have HE : Hid (decide (L = M) = false) := decide_eq_false (ne_of_at hne)
          clear hne
          rcases hv with k1 | ⟨k1, k2⟩ | ⟨k1, k2, k3⟩
          all_goals
            go_wp2
            go_quiet (fail)
            go_wp2
            go_ret
            exact ⟨ret_bool HE.out.symm, below_dn (below_dn (Below.refl _ _))⟩
      · have HE : Hid (decide (L = M) = true) := decide_eq_true (eq_of_at (HN.out.symm.trans HM.out) (fun j hj => HA.out j (by rw [← HN.out] at hj; omega)))
        go_wp2
        go_ret
        exact ⟨ret_bool HE.out.symm, below_dn (Below.refl _ _)⟩
  · have HE : Hid (decide (L = M) = false) := decide_eq_false (fun e => hlm (by rw [e]))
    have h2 : ((L.length : Int) != (M.length : Int)) = true := by simp; omega
    go_enter Tryd.func53, Tryd.ntmps53
    go_wp2
    go_ret
    exact ⟨ret_bool HE.out.symm, Below.refl _ _⟩

set_option maxRecDepth 100000 in
set_option maxHeartbeats 1600000 in
theorem specSameFact_any (kd kd' : ByteArray) (a b : Option Addr) (ca cb : Nat) (L M : List V3) (w : World) (hr : RdV w a L) (hq : RdV w b M) (hn : L.length ≤ 1048580) (hm : M.length ≤ 1048580) :
    Calls Tryd.prog 59 #[.agg #[.string kd, .slice a L.length ca], .agg #[.string kd', .slice b M.length cb]] w fun e w' =>
      e = .returned (.bool (sameF kd L kd' M)) ∧ Below w.heap.size w w' := by
  have b0 := below_al w (.cells #[.string kd, .slice a L.length ca] 41)
  have b1 := b0.alloc b0.size (.cells #[.string kd', .slice b M.length cb] 41)
  cases h1 : (kd.toList == kd'.toList)
  · have HE : Hid (sameF kd L kd' M = false) := by
      unfold Hid sameF
      rw [decide_eq_false (fun e => by rw [e] at h1; simp at h1)]; rfl
    go_enter Tryd.func59, Tryd.ntmps59
    go_wp2
    go_ret
    exact ⟨ret_bool HE.out.symm, b1⟩
  · have HE : Hid (sameF kd L kd' M = decide (L = M)) := by
      unfold Hid sameF
      rw [decide_eq_true (toList_inj (by simpa using h1))]; rfl
    go_enter Tryd.func59, Tryd.ntmps59
    go_wp2_with fail
    refine (sameVals_any a b ca cb L M _ (hr.below b1) (hq.below b1) hn hm).mono ?_
    rintro e w2 ⟨rfl, hb2⟩
    have hB2 : Below w.heap.size w w2 := b1.trans (hb2.mono b1.size)
    generalize decide (L = M) = r at HE ⊢
    go_wp2
    go_ret
    exact ⟨ret_bool HE.out.symm, hB2⟩

/-- what lies beyond five -/
theorem RdV.drop {w : World} {b off : Nat} {L : List V3} (h : RdV w (some ⟨b, off, none⟩) L) (k : Nat) : RdV w (some ⟨b, off + k * 3, none⟩) (L.drop k) := by
  intro i hi
  have hi2 : k + i < L.length := by simp at hi; omega
  obtain ⟨b', off', e, h0, h1, h2⟩ := h (k + i) hi2
  simp only [Option.some.injEq, Addr.mk.injEq, and_true] at e
  obtain ⟨rfl, rfl⟩ := e
  have ev : vAt (L.drop k) i = vAt L (k + i) := by rw [vAt_in hi, vAt_in hi2]; simp
  rw [ev]
  exact ⟨b, off + k * 3, rfl, by rw [← h0]; congr 2; omega, by rw [← h1]; congr 2; omega, by rw [← h2]; congr 2; omega⟩

/-- a list of values in memory, or none -/
def LiesV (a : Option Addr) (n cap : Nat) : Prop := (a = none ∧ n = 0 ∧ cap = 0) ∨ ∃ b off, a = some ⟨b, off, none⟩ ∧ n ≤ cap ∧ cap ≤ maxLen

/-- a row of these values is answered -/
def GivesV (e : Ending) (w : World) (D : List V3) : Prop := ∃ a' cap', e = .returned (.slice a' D.length cap') ∧ RdV w a' D
theorem gives_nil {w : World} {a : Option Addr} {cap : Nat} {D : List V3} (h : D = []) : GivesV (.returned (.slice a 0 cap)) w D := by subst h; exact ⟨_, _, rfl, RdV.nil _ _⟩
theorem gives_row {w : World} {a : Option Addr} {n cap : Nat} {D : List V3} (h : D.length = n) (hr : RdV w a D) : GivesV (.returned (.slice a n cap)) w D := by subst h; exact ⟨_, _, rfl, hr⟩

set_option maxRecDepth 100000 in
set_option maxHeartbeats 1600000 in
theorem fieldsBeyond_any (kd : ByteArray) (a : Option Addr) (cap : Nat) (L : List V3) (w : World) (hr : RdV w a L) (hl : LiesV a L.length cap) :
    Calls Tryd.prog 54 #[.agg #[.string kd, .slice a L.length cap]] w fun e w' =>
      GivesV e w' (L.drop 5) ∧ Below w.heap.size w w' := by
  have b0 := below_al w (.cells #[.string kd, .slice a L.length cap] 41)
  have HR := hide (hr.below b0)
  rcases hl with ⟨rfl, h0, rfl⟩ | ⟨b, off, rfl, hc, hm⟩
  · have HL : Hid (L = []) := List.eq_nil_of_length_eq_zero h0
    rw [h0] at b0 ⊢
    clear hr HR
    go_enter Tryd.func54, Tryd.ntmps54
    go_wp2
    go_ret
    exact ⟨gives_nil (by rw [HL.out]; rfl), b0⟩
  · unfold maxLen at hm
    have HD := hide (HR.out.drop 5)
    have HLen : Hid ((L.drop 5).length = L.length - 5) := by unfold Hid; simp
    obtain ⟨n, hN⟩ : ∃ n, n = L.length := ⟨_, rfl⟩
    rw [← hN] at hc b0 HD HLen ⊢
    have HN := hide hN
    clear hr hN HR
    by_cases h5 : n ≤ 5
    · have HE : Hid (L.drop 5 = []) := List.eq_nil_of_length_eq_zero (by rw [HLen.out]; omega)
      go_enter Tryd.func54, Tryd.ntmps54
      go_wp2
      all_goals go_ret
      all_goals exact ⟨gives_nil HE.out, below_al _ _⟩
    · go_enter Tryd.func54, Tryd.ntmps54
      go_wp2
      all_goals go_ret
      all_goals first | exact ⟨gives_row HLen.out HD.out, below_al _ _⟩ | exact ⟨gives_nil (List.eq_nil_of_length_eq_zero (by rw [HLen.out]; omega)), below_al _ _⟩

theorem pad5_inj {L M : List V3} (hl : L.length = M.length) : (pad5 L = pad5 M ∧ L.drop 5 = M.drop 5) ↔ L = M := by
  constructor
  · rintro ⟨h1, h2⟩
    unfold pad5 at h1
    rw [hl] at h1
    have := List.append_cancel_right h1
    rw [← List.take_append_drop 5 L, ← List.take_append_drop 5 M, this, h2]
  · rintro rfl; exact ⟨rfl, rfl⟩
end Go.Proofs.YtaflokfgbmlmaadDoor
/-
  What the model's IdOf answers: the Id of the first item with this fact, 0 where there is none.
-/
namespace Go.Proofs.YtaflokfgbmlmaadDoor
open Go.RowKit
set_option linter.unusedVariables false

set_option maxRecDepth 100000 in
set_option maxHeartbeats 3200000 in
theorem specIdOf_any (a b : Option Addr) (n cap cb : Nat) (nx : Int) (kd : ByteArray) (J : List It) (M : List V3) (w : World) (hr : RdI w a J) (hq : RdV w b M) (hJ : J.length = n) (hn : n ≤ 1048580) (hl : ∀ i, i < J.length → (iAt J i).L.length ≤ 1048580) (hm : M.length ≤ 1048580) :
    Calls Tryd.prog 32 #[.agg #[.slice a n cap, .int .i64 nx], .agg #[.string kd, .slice b M.length cb]] w fun e w' =>
      e = .returned (.int .i64 (idP (J.map It.pl) kd M)) ∧ Below w.heap.size w w' := by
  have HJ := hide hJ
  have HL := hide hl
  clear hJ hl
  have b0 := below_al w (.cells #[.slice a n cap, .int .i64 nx] 29)
  have b1 := b0.alloc b0.size (.cells #[.string kd, .slice b M.length cb] 41)
  have hA := box_old (box2_new w (.slice a n cap) (.int .i64 nx) 29) (by simp) (.cells #[.string kd, .slice b M.length cb] 41)
  have hC := box2_new (w.alloc (.cells #[.slice a n cap, .int .i64 nx] 29)) (.string kd) (.slice b M.length cb) 41
  simp only [World.size_alloc] at hA hC
  obtain ⟨x0, -, -, -⟩ := box2_cell hA
  obtain ⟨y0, y1, -, -⟩ := box2_cell hC
  replace hr := hr.below b1
  replace hq := hq.below b1
  have hz1 := (Array.getElem?_eq_some_iff.1 hA).1
  have hz2 := (Array.getElem?_eq_some_iff.1 hC).1
  go_enter Tryd.func32, Tryd.ntmps32
  go_wp2
  generalize (w.alloc (.cells #[.slice a n cap, .int .i64 nx] 29)).alloc (.cells #[.string kd, .slice b M.length cb] 41) = w1 at b1 hr hq x0 y0 y1 hz1 hz2 ⊢
  clear b0 hA hC
  go_loopw [5] (fun i wr => ∃ (k : Nat), k ≤ n ∧ i = .int .i64 k ∧ (∀ j, j < k → (iAt J j).same kd M = false) ∧ Below w1.heap.size w1 wr) (fun i _ => n - (intOf i).toNat)
  case atStart => exact ⟨0, Nat.zero_le _, rfl, fun j hj => absurd hj (Nat.not_lt_zero _), Below.refl _ _⟩
  case round =>
    obtain ⟨k, hk, rfl, hno, hbel⟩ := hrel
    have HNo := hide hno
    clear hno
    have hB : Below w.heap.size w wr := b1.trans (hbel.mono b1.size)
    rw [← hbel.cell (p := ⟨w.heap.size, 0, none⟩) hz1] at x0
    rw [← hbel.cell (p := ⟨w.heap.size + 1, 0, none⟩) hz2] at y0
    rw [← hbel.cell (p := ⟨w.heap.size + 1, 1, none⟩) hz2] at y1
    by_cases hlt : k < n
    · obtain ⟨b2, o2, e2, hbw2, hc2⟩ := hr.open (by rw [HJ.out]; omega)
      obtain ⟨c0, c1, c2, hv⟩ := hc2 k (by rw [HJ.out]; exact hlt)
      have HLk := hide (HL.out k (by rw [HJ.out]; exact hlt))
      replace hv := hv.below hbel
      have hq2 := hq.below hbel
      clear hc2
      subst e2
      rw [← hbel.cell (p := ⟨b2, o2 + k * 3, none⟩) hbw2] at c0
      rw [← hbel.cell (p := ⟨b2, o2 + k * 3 + 1, none⟩) hbw2] at c1
      rw [← hbel.cell (p := ⟨b2, o2 + k * 3 + 2, none⟩) hbw2] at c2
      obtain ⟨x, hx⟩ : ∃ x, x = iAt J k := ⟨_, rfl⟩
      rw [← hx] at c0 c1 c2 hv HLk
      have HX := hide hx
      clear hx
      obtain ⟨id, kd', va, vc, L⟩ := x
      simp only at c0 c1 c2 hv HLk
      have T0 : Two w w.heap.size va b L M wr := ⟨hv, hq2, hB, hB.size⟩
      clear hv hq2
      have HSm : Hid ((iAt J k).same kd M = sameF kd' L kd M) := by unfold Hid; rw [← HX.out]; rfl
      have HId : Hid ((iAt J k).id = id) := by unfold Hid; rw [← HX.out]
      cases hs : sameF kd' L kd M
      · have HS := hide hs
        clear hs
        go_wp2_with fail
        go_region_held3 (fun W => W.cell? ⟨w.heap.size, 0, none⟩ = some (.slice (some ⟨b2, o2, none⟩) n cap) ∧ W.cell? ⟨w.heap.size + 1, 0, none⟩ = some (.string kd) ∧ W.cell? ⟨w.heap.size + 1, 1, none⟩ = some (.slice b M.length cb) ∧ W.cell? ⟨b2, o2 + k * 3, none⟩ = some (.int .i64 id) ∧ W.cell? ⟨b2, o2 + k * 3 + 1, none⟩ = some (.string kd') ∧ W.cell? ⟨b2, o2 + k * 3 + 2, none⟩ = some (.slice va L.length vc) ∧ Two w w.heap.size va b L M W) (first | exact ⟨x0, y0, y1, c0, c1, c2, T0.drew⟩ | exact keepI (by assumption) (by assumption))
          (first | (go_at_call 59; refine (specSameFact_any _ _ _ _ _ _ _ _ _ T0.drew.1 T0.drew.2.1 HLk.out hm).mono ?_; rw [HS.out]; rintro e w2 ⟨rfl, hb⟩))
        all_goals
          have hb2 : Below w1.heap.size w1 w2 := hbel.trans ((below_dr hb).mono hbel.size)
          go_wp2
          go_roundw
          case rel => exact ⟨k + 1, by omega, by go_num, fun j hj => by
            by_cases hjk : j = k
            · rw [hjk, HSm.out]; exact HS.out
            · exact HNo.out j (by omega), hb2⟩
          case measure => simp [intOf]; omega
      · have HS := hide hs
        clear hs
        go_wp2_with fail
        go_region_held3 (fun W => W.cell? ⟨w.heap.size, 0, none⟩ = some (.slice (some ⟨b2, o2, none⟩) n cap) ∧ W.cell? ⟨w.heap.size + 1, 0, none⟩ = some (.string kd) ∧ W.cell? ⟨w.heap.size + 1, 1, none⟩ = some (.slice b M.length cb) ∧ W.cell? ⟨b2, o2 + k * 3, none⟩ = some (.int .i64 id) ∧ W.cell? ⟨b2, o2 + k * 3 + 1, none⟩ = some (.string kd') ∧ W.cell? ⟨b2, o2 + k * 3 + 2, none⟩ = some (.slice va L.length vc) ∧ Two w w.heap.size va b L M W) (first | exact ⟨x0, y0, y1, c0, c1, c2, T0.drew⟩ | exact keepI (by assumption) (by assumption))
          (first | (go_at_call 59; refine (specSameFact_any _ _ _ _ _ _ _ _ _ T0.drew.1 T0.drew.2.1 HLk.out hm).mono ?_; rw [HS.out]; rintro e w2 ⟨rfl, hb⟩))
        all_goals
          have hB2 : Below w.heap.size w w2 := hB.trans ((below_dr hb).mono hB.size)
          obtain ⟨z0, z1, z2, z3, z4, z5, -⟩ := keepI (below_dr hb) ⟨x0, y0, y1, c0, c1, c2, T0⟩
          have HI : Hid (idP (J.map It.pl) kd M = id) := by
            unfold Hid
            rw [idP_hit (k := k) (by rw [HJ.out]; exact hlt) HNo.out (by rw [HSm.out]; exact HS.out), HId.out]
          go_wp2
          go_ret
          exact ⟨ret_int HI.out.symm, hB2⟩
    · have HI : Hid (idP (J.map It.pl) kd M = 0) := idP_none (fun j hj => HNo.out j (by rw [HJ.out] at hj; omega))
      go_wp2
      go_ret
      exact ⟨ret_int HI.out.symm, hB⟩
end Go.Proofs.YtaflokfgbmlmaadDoor
/-
  The model's l4Assert: a fact asserted in a store that is written into.
-/
namespace Go.Proofs.YtaflokfgbmlmaadDoor
open Go.RowKit
set_option linter.unusedVariables false

theorem ownsRow_up {w : World} {base base' n size g cap : Nat} {T : TypeId} {xs : List Value} (h : w.ownsRow base T size (.slice (some ⟨g, 0, none⟩) n cap) n xs) (hb : base' ≤ g) : w.ownsRow base' T size (.slice (some ⟨g, 0, none⟩) n cap) n xs := by
  refine ⟨h.1, ?_⟩
  rcases h.2 with h2 | ⟨g', cap', cur, e, hb', rest⟩
  · exact absurd h2 (by simp)
  · have e2 := e
    simp only [Value.slice.injEq, Option.some.injEq, Addr.mk.injEq] at e2
    exact .inr ⟨g', cap', cur, e, by rw [← e2.1.1]; exact hb, rest⟩
/-- a store's items, in a block of the call's own or none at all -/
def HV (w : World) (lo n : Nat) (va : Option Addr) (vc : Nat) (K : List It) : Prop := (n = 0 ∧ K = [] ∧ va = none ∧ vc = 0) ∨ ∃ g, va = some ⟨g, 0, none⟩ ∧ HoldsI w lo g vc K
theorem HV.later {w w' : World} {lo n vc : Nat} {va : Option Addr} {K : List It} (h : HV w lo n va vc K) (hb : Below w.heap.size w w') : HV w' lo n va vc K :=
  h.imp id (fun ⟨g, e, o⟩ => ⟨g, e, o.later hb⟩)
theorem gi {w : World} {lo n vc p : Nat} {va : Option Addr} {K : List It} {cs : Array Value} (hv : HV w lo n va vc K) (hK : K.length = n) (hp : w.heap[p]? = some (.cells cs 29 (0, 0))) :
    ∃ g, g < w.heap.size ∧ (∀ x, Copied w lo g (K ++ [x]) K n) ∧ (∀ q, (Value.slice va n vc).ownBlock = some q → q = g ∧ lo ≤ q ∧ q ≠ p) ∧ w.ownsRow 0 54 3 (.slice va n vc) n (rowOf It.cells K) ∧ RdI w va K ∧ (g = p ∨ ∃ cur, w.heap[g]? = some (.cells cur 54 (0, 0))) := by
  rcases hv with ⟨rfl, rfl, rfl, rfl⟩ | ⟨g, rfl, o⟩
  · exact ⟨p, (Array.getElem?_eq_some_iff.1 hp).1, fun x => Copied.zero _ _ _ _ _, fun q e => (by cases e), World.ownsRow_nil _ _ _ _, RdI.nil _ _, .inl rfl⟩
  · subst hK
    refine ⟨g, o.lt, fun x => o.copied x, fun q e => by cases e; exact ⟨rfl, o.low, fun e => row_ne_box o.own hp (by decide) e.symm⟩, o.own, o.rd, .inr ?_⟩
    rcases o.own.2 with h2 | ⟨g', cap', cur, e, hb, hg, rest⟩
    · exact absurd h2 (by simp)
    · simp only [Value.slice.injEq, Option.some.injEq, Addr.mk.injEq] at e
      exact ⟨cur, by rw [e.1.1]; exact hg⟩
theorem sA {W : World} {p f : Nat} {v0 : Value} {nx : Int} {kd : ByteArray} {v1 : Value} (hp : W.heap[p]? = some (.cells #[v0, .int .i64 nx] 29 (0, 0))) (hf : W.heap[f]? = some (.cells #[.string kd, v1] 41 (0, 0))) :
    W.cell? ⟨p, 1, none⟩ = some (.int .i64 nx) ∧ W.cell? ⟨f, 0, none⟩ = some (.string kd) ∧ W.cell? ⟨f, 1, none⟩ = some v1 := ⟨(box2_cell hp).2.1, (box2_cell hf).1, (box2_cell hf).2.1⟩
/-- asserting, plainly: the Id, Next, the items -/
def assP (K : List P4) (nx : Int) (kd : ByteArray) (M : List V3) : Int × Int × List P4 := if 0 < idP K kd M then (idP K kd M, nx, K) else if 40 ≤ K.length ∨ 1000000 ≤ nx then (0, nx, K) else (nx, nx + 1, K ++ [⟨nx, kd, M⟩])

set_option maxRecDepth 100000 in
set_option maxHeartbeats 12800000 in
theorem l4Assert_any (p lo n vc cb : Nat) (va b : Option Addr) (nx : Int) (kd : ByteArray) (K : List It) (M : List V3) (w : World) (hp : w.heap[p]? = some (.cells #[.slice va n vc, .int .i64 nx] 29 (0, 0))) (hv : HV w lo n va vc K) (hKn : K.length = n) (hn : n ≤ 1048576) (hl : ∀ i, i < K.length → (iAt K i).L.length ≤ 1048580) (hq : RdV w b M) (hm : M.length ≤ 1048580) (hlop : lo ≤ p) (hlo : lo ≤ w.heap.size) (hnx : 0 ≤ nx) :
    Calls Tryd.prog 38 #[.pointer (some ⟨p, 0, none⟩), .agg #[.string kd, .slice b M.length cb]] w fun e w' =>
      e = .returned (.int .i64 (assP (K.map It.pl) nx kd M).1) ∧ ∃ va' vc' K', w'.heap[p]? = some (.cells #[.slice va' K'.length vc', .int .i64 (assP (K.map It.pl) nx kd M).2.1] 29 (0, 0)) ∧ HV w' lo K'.length va' vc' K' ∧ K'.map It.pl = (assP (K.map It.pl) nx kd M).2.2 ∧ Below lo w w' := by
  obtain ⟨i0, hi, hz0, hz1, hz2⟩ := info_parts Tryd.info54
  have HKn := hide hKn
  have HL := hide hl
  have HM := hide hm
  have b1 := below_al w (.cells #[.string kd, .slice b M.length cb] 41)
  have hF := box2_new w (.string kd) (.slice b M.length cb) 41
  have hP := box_step hp b1
  have HFp : Hid (w.heap.size ≠ p) := Nat.ne_of_gt (Array.getElem?_eq_some_iff.1 hp).1
  have hv1 := hv.later b1
  have hq1 := hq.below b1
  clear hp hv hq hKn hl hm
  go_enter Tryd.func38, Tryd.ntmps38
  go_wp2_with fail
  generalize w.alloc (.cells #[.string kd, .slice b M.length cb] 41) = w1 at b1 hF hP hv1 hq1 ⊢
  obtain ⟨-, -, -, -, -, hr1, -⟩ := gi hv1 HKn.out hP
  have hr1d : RdI w1.drew va K := hr1.below (Below.refl _ _).drew
  have hq1d : RdV w1.drew b M := hq1.heap rfl
  have S1 : w1.cell? ⟨p, 0, none⟩ = some (.slice va n vc) ∧ w1.cell? ⟨p, 1, none⟩ = some (.int .i64 nx) ∧ w1.cell? ⟨w.heap.size, 0, none⟩ = some (.string kd) ∧ w1.cell? ⟨w.heap.size, 1, none⟩ = some (.slice b M.length cb) := ⟨(box2_cell hP).1, sA hP hF⟩
  refine wp_region_held_drew (S := fun W => W.cell? ⟨p, 0, none⟩ = some (.slice va n vc) ∧ W.cell? ⟨p, 1, none⟩ = some (.int .i64 nx) ∧ W.cell? ⟨w.heap.size, 0, none⟩ = some (.string kd) ∧ W.cell? ⟨w.heap.size, 1, none⟩ = some (.slice b M.length cb)) (by kernel_rfl) S1 (fun hHeld => ?_)
  refine wpAnyH_take (i := 0) (oi := Oper.mk (some 6) _ _ _ _ _) (v := ?v1) rfl (by kernel_rfl) (by kernel_rfl) (by kernel_rfl) (fun _ _ _ h => h) (Or.inl ⟨by rfl, ?y1⟩) hHeld ?r1
  case y1 => (intro W hSW; obtain ⟨q0, q1, q2, q3⟩ := hSW; go_simp; try with_reducible rfl)
  simp only [Act.put, List.setIfInBounds_toArray, List.set_cons_zero, List.set_cons_succ]
  refine wpAnyH_take (i := 1) (oi := Oper.mk (some 7) _ _ _ _ _) (v := ?v2) rfl (by kernel_rfl) (by kernel_rfl) (by kernel_rfl) (fun _ _ _ h => h) (Or.inl ⟨by rfl, ?y2⟩) hHeld ?r2
  case y2 => (intro W hSW; obtain ⟨q0, q1, q2, q3⟩ := hSW; go_simp; try with_reducible rfl)
  simp only [Act.put, List.setIfInBounds_toArray, List.set_cons_zero, List.set_cons_succ]
  refine wpAnyH_take (i := 2) (oi := Oper.mk (some 8) _ _ _ _ _) (v := ?v3) rfl (by kernel_rfl) (by kernel_rfl) (by kernel_rfl) (fun _ _ _ h => h) (Or.inl ⟨by rfl, ?y3⟩) hHeld ?r3
  case y3 => (intro W hSW; obtain ⟨q0, q1, q2, q3⟩ := hSW; go_simp; try with_reducible rfl)
  simp only [Act.put, List.setIfInBounds_toArray, List.set_cons_zero, List.set_cons_succ]
  refine wpAnyH_take (i := 3) (oi := Oper.mk (some 9) _ _ _ _ _) (v := ?v4) rfl (by kernel_rfl) (by kernel_rfl) (by kernel_rfl) (fun _ _ _ h => h) (Or.inl ⟨by rfl, ?y4⟩) hHeld ?r4
  case y4 => (intro W hSW; obtain ⟨q0, q1, q2, q3⟩ := hSW; go_simp; try with_reducible rfl)
  simp only [Act.put, List.setIfInBounds_toArray, List.set_cons_zero, List.set_cons_succ]
  refine wpAnyH_ready (rs := [4]) (by kernel_rfl) (by simp) (AllReadyH.cons (o := Oper.mk (some 10) _ _ _ _ _) rfl (fun Kk hK => ?_) AllReadyH.nil)
  go_simp
  refine (specIdOf_any va b n vc cb nx kd K M _ hr1d hq1d HKn.out (by omega) HL.out HM.out).mono ?_
  rintro e w2 ⟨rfl, b2⟩
  have hb2 : Below w1.heap.size w1 w2 := below_dr b2
  have hP2 := box_step hP hb2
  have hF2 := box_step hF hb2
  refine hK.out _ _ ⟨(box2_cell hP2).1, sA hP2 hF2⟩ (fun hHeld => ?_)
  clear hK Kk
  refine wpAnyH_take (i := 5) (oi := Oper.mk (some 5) _ _ _ _ _) (v := ?v5) rfl (by kernel_rfl) (by kernel_rfl) (by kernel_rfl) (fun _ _ _ h => h) (Or.inl ⟨by rfl, ?y5⟩) hHeld ?r5
  case y5 => (intro W hSW; obtain ⟨q0, q1, q2, q3⟩ := hSW; go_simp; try with_reducible rfl)
  simp only [Act.put, List.setIfInBounds_toArray, List.set_cons_zero, List.set_cons_succ]
  refine wpAnyH_done (by kernel_rfl) ?_ _
  have hv2 := hv1.later hb2
  have hq2 := hq1.below hb2
  have hB2 : Below lo w w2 := (b1.mono hlo).trans (hb2.mono (Nat.le_trans hlo b1.size))
  have hlo2 : lo ≤ w2.heap.size := Nat.le_trans hlo (Nat.le_trans b1.size hb2.size)
  clear hHeld b1 hF hP hv1 hq1 hr1 hr1d hq1d S1 b2 hb2
  obtain ⟨o2, o21, -, -⟩ := box2_cell hP2
  have HV2 := hide hv2
  have HBd := hide hB2
  have HPP := hide hP2
  obtain ⟨r, hr⟩ : ∃ r, idP (K.map It.pl) kd M = r := ⟨_, rfl⟩
  have HR := hide hr
  rw [hr]
  clear hr
  by_cases h0 : 0 < r
  · have HA : Hid (assP (K.map It.pl) nx kd M = (r, nx, K.map It.pl)) := by unfold Hid assP; rw [HR.out, if_pos h0]
    clear hv2 hB2 hP2 hF2
    go_wp2
    go_ret
    exact ⟨by rw [HA.out]; rfl, va, vc, K, by rw [HA.out, HKn.out]; exact HPP.out, by rw [HKn.out]; exact HV2.out, by rw [HA.out], HBd.out⟩
  · by_cases h1 : 40 ≤ n
    · have HA : Hid (assP (K.map It.pl) nx kd M = (0, nx, K.map It.pl)) := by unfold Hid assP; rw [HR.out, if_neg h0, if_pos (Or.inl (by rw [List.length_map, HKn.out]; exact h1))]
      have h1' : (40 : Int) ≤ (n : Int) := by omega
      clear hv2 hB2 hP2 hF2
      go_wp2
      go_ret
      exact ⟨by rw [HA.out]; rfl, va, vc, K, by rw [HA.out, HKn.out]; exact HPP.out, by rw [HKn.out]; exact HV2.out, by rw [HA.out], HBd.out⟩
    · have h1' : ¬ ((40 : Int) ≤ (n : Int)) := by omega
      by_cases h2 : 1000000 ≤ nx
      · have HA : Hid (assP (K.map It.pl) nx kd M = (0, nx, K.map It.pl)) := by unfold Hid assP; rw [HR.out, if_neg h0, if_pos (Or.inr h2)]
        clear hv2 hB2 hP2 hF2
        go_wp2
        go_ret
        exact ⟨by rw [HA.out]; rfl, va, vc, K, by rw [HA.out, HKn.out]; exact HPP.out, by rw [HKn.out]; exact HV2.out, by rw [HA.out], HBd.out⟩
      · have HA : Hid (assP (K.map It.pl) nx kd M = (nx, nx + 1, K.map It.pl ++ [⟨nx, kd, M⟩])) := by unfold Hid assP; rw [HR.out, if_neg h0, if_neg (by rw [List.length_map, HKn.out]; omega)]
        obtain ⟨g, hgs, hcop, hob, hown2, -, hgT⟩ := gi hv2 HKn.out hP2
        have HCop := hide hcop
        have HOb := hide hob
        have HFg : Hid (w.heap.size ≠ g) := by
          rintro e
          rcases hgT with e2 | ⟨cur, e2⟩
          · exact HFp.out (e.trans e2)
          · rw [← e, hF2] at e2
            simp only [Option.some.injEq, Obj.cells.injEq] at e2
            exact absurd e2.2.1 (by decide)
        have hq2d : RdV w2.drew b M := hq2.heap rfl
        have S2 := sA hP2 hF2
        clear hcop hob hgT hv2 HV2 HBd HPP
        go_wp2_with fail
        refine wp_region_held_drew (S := fun W => W.cell? ⟨p, 1, none⟩ = some (.int .i64 nx) ∧ W.cell? ⟨w.heap.size, 0, none⟩ = some (.string kd) ∧ W.cell? ⟨w.heap.size, 1, none⟩ = some (.slice b M.length cb)) (by kernel_rfl) S2 (fun hHeld => ?_)
        refine wpAnyH_take (i := 0) (oi := Oper.mk (some 27) _ _ _ _ _) (v := ?v6) rfl (by kernel_rfl) (by kernel_rfl) (by kernel_rfl) (fun _ _ _ h => h) (Or.inl ⟨by rfl, ?y6⟩) hHeld ?r6
        case y6 => (intro W hSW; obtain ⟨q0, q1, q2⟩ := hSW; go_simp; try with_reducible rfl)
        simp only [Act.put, List.setIfInBounds_toArray, List.set_cons_zero, List.set_cons_succ]
        refine wpAnyH_take (i := 1) (oi := Oper.mk (some 28) _ _ _ _ _) (v := ?v7) rfl (by kernel_rfl) (by kernel_rfl) (by kernel_rfl) (fun _ _ _ h => h) (Or.inl ⟨by rfl, ?y7⟩) hHeld ?r7
        case y7 => (intro W hSW; obtain ⟨q0, q1, q2⟩ := hSW; go_simp; try with_reducible rfl)
        simp only [Act.put, List.setIfInBounds_toArray, List.set_cons_zero, List.set_cons_succ]
        refine wpAnyH_take (i := 2) (oi := Oper.mk (some 29) _ _ _ _ _) (v := ?v8) rfl (by kernel_rfl) (by kernel_rfl) (by kernel_rfl) (fun _ _ _ h => h) (Or.inl ⟨by rfl, ?y8⟩) hHeld ?r8
        case y8 => (intro W hSW; obtain ⟨q0, q1, q2⟩ := hSW; go_simp; try with_reducible rfl)
        simp only [Act.put, List.setIfInBounds_toArray, List.set_cons_zero, List.set_cons_succ]
        refine wpAnyH_take (i := 3) (oi := Oper.mk (some 30) _ _ _ _ _) (v := ?v9) rfl (by kernel_rfl) (by kernel_rfl) (by kernel_rfl) (fun _ _ _ h => h) (Or.inl ⟨by rfl, ?y9⟩) hHeld ?r9
        case y9 => (intro W hSW; obtain ⟨q0, q1, q2⟩ := hSW; go_simp; try with_reducible rfl)
        simp only [Act.put, List.setIfInBounds_toArray, List.set_cons_zero, List.set_cons_succ]
        refine wpAnyH_take (i := 5) (oi := Oper.mk (some 32) _ _ _ _ _) (v := ?v10) rfl (by kernel_rfl) (by kernel_rfl) (by kernel_rfl) (fun _ _ _ h => h) (Or.inl ⟨by rfl, ?y10⟩) hHeld ?r10
        case y10 => (intro W hSW; obtain ⟨q0, q1, q2⟩ := hSW; go_simp; try with_reducible rfl)
        simp only [Act.put, List.setIfInBounds_toArray, List.set_cons_zero, List.set_cons_succ]
        refine wpAnyH_take (i := 6) (oi := Oper.mk (some 33) _ _ _ _ _) (v := ?v11) rfl (by kernel_rfl) (by kernel_rfl) (by kernel_rfl) (fun _ _ _ h => h) (Or.inl ⟨by rfl, ?y11⟩) hHeld ?r11
        case y11 => (intro W hSW; obtain ⟨q0, q1, q2⟩ := hSW; go_simp; try with_reducible rfl)
        simp only [Act.put, List.setIfInBounds_toArray, List.set_cons_zero, List.set_cons_succ]
        refine wpAnyH_take (i := 7) (oi := Oper.mk (some 34) _ _ _ _ _) (v := ?v12) rfl (by kernel_rfl) (by kernel_rfl) (by kernel_rfl) (fun _ _ _ h => h) (Or.inl ⟨by rfl, ?y12⟩) hHeld ?r12
        case y12 => (intro W hSW; obtain ⟨q0, q1, q2⟩ := hSW; go_simp; try with_reducible rfl)
        simp only [Act.put, List.setIfInBounds_toArray, List.set_cons_zero, List.set_cons_succ]
        refine wpAnyH_take (i := 8) (oi := Oper.mk (some 35) _ _ _ _ _) (v := ?v13) rfl (by kernel_rfl) (by kernel_rfl) (by kernel_rfl) (fun _ _ _ h => h) (Or.inl ⟨by rfl, ?y13⟩) hHeld ?r13
        case y13 => (intro W hSW; obtain ⟨q0, q1, q2⟩ := hSW; go_simp; try with_reducible rfl)
        simp only [Act.put, List.setIfInBounds_toArray, List.set_cons_zero, List.set_cons_succ]
        refine wpAnyH_take (i := 9) (oi := Oper.mk (some 36) _ _ _ _ _) (v := ?v14) rfl (by kernel_rfl) (by kernel_rfl) (by kernel_rfl) (fun _ _ _ h => h) (Or.inl ⟨by rfl, ?y14⟩) hHeld ?r14
        case y14 => (intro W hSW; obtain ⟨q0, q1, q2⟩ := hSW; go_simp; try with_reducible rfl)
        simp only [Act.put, List.setIfInBounds_toArray, List.set_cons_zero, List.set_cons_succ]
        refine wpAnyH_ready (rs := [4, 10]) (by kernel_rfl) (by simp) (AllReadyH.cons (o := Oper.mk (some 31) _ _ _ _ _) rfl (fun Kk hK => ?_) (AllReadyH.cons (o := Oper.mk (some 37) _ _ _ _ _) rfl (fun Kk hK => ?_) AllReadyH.nil))
        · go_simp
          refine hK.out _ _ S2 (fun hHeld => ?_)
          clear hK Kk
          refine wpAnyH_ready (rs := [10]) (by kernel_rfl) (by simp) (AllReadyH.cons (o := Oper.mk (some 37) _ _ _ _ _) rfl (fun Kk hK => ?_) AllReadyH.nil)
          go_simp
          refine (l3Copy_any kd b cb M _ hq2d HM.out).mono ?_
          rintro e w3 ⟨a', c', rfl, hnew, b3⟩
          have hbr3 : Below w2.heap.size w2 w3 := below_dr b3
          have hP3 := box_step hP2 hbr3
          have hF3 := box_step hF2 hbr3
          have S3 := sA hP3 hF3
          obtain ⟨o3, -, -, -⟩ := box2_cell hP3
          refine hK.out _ _ S3 (fun hHeld => ?_)
          clear hK Kk
          refine wpAnyH_take (i := 11) (oi := Oper.mk (some 38) _ _ _ _ _) (v := ?v15) rfl (by kernel_rfl) (by kernel_rfl) (by kernel_rfl) (fun _ _ _ h => h) (Or.inl ⟨by rfl, ?y15⟩) hHeld ?r15
          case y15 => (intro W hSW; obtain ⟨q0, q1, q2⟩ := hSW; go_simp; try with_reducible rfl)
          simp only [Act.put, List.setIfInBounds_toArray, List.set_cons_zero, List.set_cons_succ]
          refine wpAnyH_ready (rs := [12]) (by kernel_rfl) (by simp) (AllReadyH.cons (o := Oper.mk (some 39) _ _ _ _ _) rfl (fun Kk hK => ?_) AllReadyH.nil)
          go_simp
          have ba4 := below_al w3 (.cells #[.int .i64 nx, .string kd, .slice a' M.length c'] 54)
          have hbr4 := hbr3.trans (ba4.mono hbr3.size)
          have hnew4 : NewV _ w2.heap.size a' c' M := hnew.later ba4
          have HSrc := hide (srcI w3 ⟨nx, kd, a', c', M⟩)
          have HO4 := hide (ownsRow_below hown2 hbr4)
          have hP4 := box_step hP2 hbr4
          have hF4 := box_step hF2 hbr4
          have S4 := sA hP4 hF4
          obtain ⟨o4, -, -, -⟩ := box2_cell hP4
          have hB4 : Below lo w _ := hB2.trans (hbr4.mono hlo2)
          refine hK.out _ _ S4 (fun hHeld => ?_)
          clear hK Kk
          refine wpAnyH_ready (rs := [13]) (by kernel_rfl) (by simp) (AllReadyH.cons (o := Oper.mk (some 40) _ _ _ _ _) rfl (fun Kk hK => ?_) AllReadyH.nil)
          refine step_append_lies _ rfl (.tmp 31) (.tmp 39) 27 rfl 0 54 i0 (.agg #[.int .i64 0, .string ⟨#[]⟩, .slice none 0 0]) 3 48 Tryd.underlying27 hi hz0 hz1 hz2 rfl (by omega) (.slice va n vc) n (rowOf It.cells K) rfl HO4.out ⟨w3.heap.size, 0, none⟩ 1 1 (It.cells ⟨nx, kd, a', c', M⟩) ?hx rfl HSrc.out (oneI _) (by omega) (by unfold maxLen; omega) (by omega) (Nat.zero_le _) _ rfl ?_
          case hx => simp [Act.eval]
          intro g5 c5 w5 ho5 hg5 hat5 hlt5
          rw [rowI_app] at ho5
          have hlo4 : lo ≤ (w3.alloc (.cells #[.int .i64 nx, .string kd, .slice a' M.length c'] 54)).heap.size := Nat.le_trans hlo2 hbr4.size
          have hB5 : Below lo w w5 := hB4.grown hg5 hlo4 (fun q e => (HOb.out q e).2.1)
          have hP5 := (hg5.block p (Array.getElem?_eq_some_iff.1 hP4).1 (fun e => (HOb.out p e.symm).2.2 rfl)).trans hP4
          have hF5 := (hg5.block w.heap.size (Array.getElem?_eq_some_iff.1 hF4).1 (fun e => by have := (HOb.out _ e.symm).2.1; have := (HOb.out _ e.symm).1; exact HFg.out this)).trans hF4
          have S5 := sA hP5 hF5
          obtain ⟨o5, o51, of0, of1⟩ := box2_cell hP5
          have hg5l : lo ≤ g5 := by
            rcases hat5 with e | e
            · exact (HOb.out g5 e).2.1
            · rw [e]; exact hlo4
          have hg5p : g5 ≠ p := by
            rcases hat5 with e | e
            · exact (HOb.out g5 e).2.2
            · rw [e]; exact Nat.ne_of_gt (Array.getElem?_eq_some_iff.1 hP4).1
          have HC4 := hide ((HCop.out ⟨nx, kd, a', c', M⟩).more (K' := K ++ [⟨nx, kd, a', c', M⟩]) (x := ⟨nx, kd, a', c', M⟩) hbr4 (World.grownBy.refl _ _) (fun i hi => iAt_app_lt (by rw [HKn.out]; exact hi)) (by have e := iAt_app_eq K ⟨nx, kd, a', c', M⟩; rw [HKn.out] at e; exact e) (by have e := iAt_app_eq K ⟨nx, kd, a', c', M⟩; rw [HKn.out] at e; rw [e]) (fun hne => by obtain ⟨q, e, h1, o⟩ := hnew4.own hne; exact ⟨q, e, h1, o⟩) hnew4.2 hlo2 hgs)
          have st := box2_set0 hP5 (.slice (some ⟨g5, 0, none⟩) (n + 1) c5)
          have HC6 := hide (HC4.out.rebase3 (w' := w5.setCell ⟨p, 0, none⟩ (.slice (some ⟨g5, 0, none⟩) (n + 1) c5)) (g' := g5) hP4 (fun q hq hne hnp => (st.2.block q (Nat.lt_of_lt_of_le hq hg5.size) (fun e => hnp (Option.some.inj e))).trans (hg5.block q hq (fun e => hne (HOb.out q e.symm).1))) (by rcases hat5 with e | e; exact .inl (HOb.out g5 e).1; exact .inr (Nat.le_of_eq e.symm)))
          have HO6 := hide (ownsRow_up (ownsRow_sameB (w' := w5.setCell ⟨p, 0, none⟩ (.slice (some ⟨g5, 0, none⟩) (n + 1) c5)) ho5 (fun q e => by have e1 : g5 = q := Option.some.inj e; subst e1; exact st.2.block g5 hlt5 (fun e => hg5p (Option.some.inj e)))) hg5l)
          have hB6 := hB5.grown st.2 (Nat.le_trans hlo4 hg5.size) (fun q e => by have e2 : p = q := Option.some.inj e; rw [← e2]; exact hlop)
          have hF6 := box_gr hF5 st.2 HFp.out
          have hP6 := st.1
          have S6 := sA hP6 hF6
          have HLen : Hid ((K ++ [(⟨nx, kd, a', c', M⟩ : It)]).length = n + 1) := by unfold Hid; rw [List.length_append, HKn.out]; rfl
          refine hK.out _ _ S5 (fun hHeld => ?_)
          clear hK Kk
          refine wpAnyH_take (i := 14) (oi := Oper.mk (some 41) _ _ _ _ _) (v := ?v16) rfl (by kernel_rfl) (by kernel_rfl) (by kernel_rfl) (fun _ _ _ h => h) (Or.inl ⟨by rfl, ?y16⟩) hHeld ?r16
          case y16 => (intro W hSW; obtain ⟨q0, q1, q2⟩ := hSW; go_simp; try with_reducible rfl)
          simp only [Act.put, List.setIfInBounds_toArray, List.set_cons_zero, List.set_cons_succ]
          refine wpAnyH_take (i := 15) (oi := Oper.mk (some 42) _ _ _ _ _) (v := ?v17) rfl (by kernel_rfl) (by kernel_rfl) (by kernel_rfl) (fun _ _ _ h => h) (Or.inl ⟨by rfl, ?y17⟩) hHeld ?r17
          case y17 => (intro W hSW; obtain ⟨q0, q1, q2⟩ := hSW; go_simp; try with_reducible rfl)
          simp only [Act.put, List.setIfInBounds_toArray, List.set_cons_zero, List.set_cons_succ]
          refine wpAnyH_ready (rs := [16]) (by kernel_rfl) (by simp) (AllReadyH.cons (o := Oper.mk none _ _ _ _ _) rfl (fun Kk hK => ?_) AllReadyH.nil)
          go_simp
          refine hK.out _ _ S6 (fun hHeld => ?_)
          clear hK Kk
          refine wpAnyH_done (by kernel_rfl) ?_ _
          have st2 := box2_set1 hP6 (.int .i64 (nx + 1))
          have HP7 := hide st2.1
          have HB7 := hide (hB6.grown st2.2 (Nat.le_trans (Nat.le_trans hlo4 hg5.size) st.2.size) (fun q e => by have e2 : p = q := Option.some.inj e; rw [← e2]; exact hlop))
          have HC7 := hide (HC6.out.rebase3 (w' := (w5.setCell ⟨p, 0, none⟩ (.slice (some ⟨g5, 0, none⟩) (n + 1) c5)).setCell ⟨p, 1, none⟩ (.int .i64 (nx + 1))) (g' := g5) hP6 (fun q hq hne hnp => st2.2.block q hq (fun e => hnp (Option.some.inj e))) (.inl rfl))
          have HO7 := hide (ownsRow_sameB (w' := (w5.setCell ⟨p, 0, none⟩ (.slice (some ⟨g5, 0, none⟩) (n + 1) c5)).setCell ⟨p, 1, none⟩ (.int .i64 (nx + 1))) HO6.out (fun q e => by have e1 : g5 = q := Option.some.inj e; subst e1; exact st2.2.block g5 (Nat.lt_of_lt_of_le hlt5 st.2.size) (fun e => hg5p (Option.some.inj e))))
          obtain ⟨p0, p1, pf0, pf1⟩ := box2_cell hP6
          obtain ⟨m0, m1, -, -⟩ := box2_cell HP7.out
          have HD := hide (Copied.done (cp := c5) (by rw [HLen.out]; exact HC7.out) rfl hg5l (by rw [HLen.out]; exact HO7.out))
          clear S2 S3 S4 S5 S6 st st2 o5 o51 of0 of1 hHeld o4 hP5 hF5 hP4 hF4 hP3 hF3 ho5 hg5 HO4 HSrc hnew4 hB4 hbr4 ba4 o3 hbr3 hnew b3 HC4 HC6 HC7 HCop HO6 HO7 o2 hB5 hB6 hF6 hP2 hF2
          go_wp2
          go_ret
          exact ⟨by rw [HA.out]; rfl, some ⟨g5, 0, none⟩, c5, K ++ [⟨nx, kd, a', c', M⟩], by rw [HA.out, HLen.out]; exact HP7.out, .inr ⟨g5, rfl, HD.out.1⟩, by rw [HA.out, List.map_append]; rfl, HB7.out⟩
        · go_simp
          refine (l3Copy_any kd b cb M _ hq2d HM.out).mono ?_
          rintro e w3 ⟨a', c', rfl, hnew, b3⟩
          have hbr3 : Below w2.heap.size w2 w3 := below_dr b3
          have hP3 := box_step hP2 hbr3
          have hF3 := box_step hF2 hbr3
          have S3 := sA hP3 hF3
          obtain ⟨o3, -, -, -⟩ := box2_cell hP3
          refine hK.out _ _ S3 (fun hHeld => ?_)
          clear hK Kk
          refine wpAnyH_take (i := 11) (oi := Oper.mk (some 38) _ _ _ _ _) (v := ?v18) rfl (by kernel_rfl) (by kernel_rfl) (by kernel_rfl) (fun _ _ _ h => h) (Or.inl ⟨by rfl, ?y18⟩) hHeld ?r18
          case y18 => (intro W hSW; obtain ⟨q0, q1, q2⟩ := hSW; go_simp; try with_reducible rfl)
          simp only [Act.put, List.setIfInBounds_toArray, List.set_cons_zero, List.set_cons_succ]
          refine wpAnyH_ready (rs := [4, 12]) (by kernel_rfl) (by simp) (AllReadyH.cons (o := Oper.mk (some 31) _ _ _ _ _) rfl (fun Kk hK => ?_) (AllReadyH.cons (o := Oper.mk (some 39) _ _ _ _ _) rfl (fun Kk hK => ?_) AllReadyH.nil))
          · go_simp
            refine hK.out _ _ S3 (fun hHeld => ?_)
            clear hK Kk
            refine wpAnyH_ready (rs := [12]) (by kernel_rfl) (by simp) (AllReadyH.cons (o := Oper.mk (some 39) _ _ _ _ _) rfl (fun Kk hK => ?_) AllReadyH.nil)
            go_simp
            have ba4 := below_al w3 (.cells #[.int .i64 nx, .string kd, .slice a' M.length c'] 54)
            have hbr4 := hbr3.trans (ba4.mono hbr3.size)
            have hnew4 : NewV _ w2.heap.size a' c' M := hnew.later ba4
            have HSrc := hide (srcI w3 ⟨nx, kd, a', c', M⟩)
            have HO4 := hide (ownsRow_below hown2 hbr4)
            have hP4 := box_step hP2 hbr4
            have hF4 := box_step hF2 hbr4
            have S4 := sA hP4 hF4
            obtain ⟨o4, -, -, -⟩ := box2_cell hP4
            have hB4 : Below lo w _ := hB2.trans (hbr4.mono hlo2)
            refine hK.out _ _ S4 (fun hHeld => ?_)
            clear hK Kk
            refine wpAnyH_ready (rs := [13]) (by kernel_rfl) (by simp) (AllReadyH.cons (o := Oper.mk (some 40) _ _ _ _ _) rfl (fun Kk hK => ?_) AllReadyH.nil)
            refine step_append_lies _ rfl (.tmp 31) (.tmp 39) 27 rfl 0 54 i0 (.agg #[.int .i64 0, .string ⟨#[]⟩, .slice none 0 0]) 3 48 Tryd.underlying27 hi hz0 hz1 hz2 rfl (by omega) (.slice va n vc) n (rowOf It.cells K) rfl HO4.out ⟨w3.heap.size, 0, none⟩ 1 1 (It.cells ⟨nx, kd, a', c', M⟩) ?hx rfl HSrc.out (oneI _) (by omega) (by unfold maxLen; omega) (by omega) (Nat.zero_le _) _ rfl ?_
            case hx => simp [Act.eval]
            intro g5 c5 w5 ho5 hg5 hat5 hlt5
            rw [rowI_app] at ho5
            have hlo4 : lo ≤ (w3.alloc (.cells #[.int .i64 nx, .string kd, .slice a' M.length c'] 54)).heap.size := Nat.le_trans hlo2 hbr4.size
            have hB5 : Below lo w w5 := hB4.grown hg5 hlo4 (fun q e => (HOb.out q e).2.1)
            have hP5 := (hg5.block p (Array.getElem?_eq_some_iff.1 hP4).1 (fun e => (HOb.out p e.symm).2.2 rfl)).trans hP4
            have hF5 := (hg5.block w.heap.size (Array.getElem?_eq_some_iff.1 hF4).1 (fun e => by have := (HOb.out _ e.symm).2.1; have := (HOb.out _ e.symm).1; exact HFg.out this)).trans hF4
            have S5 := sA hP5 hF5
            obtain ⟨o5, o51, of0, of1⟩ := box2_cell hP5
            have hg5l : lo ≤ g5 := by
              rcases hat5 with e | e
              · exact (HOb.out g5 e).2.1
              · rw [e]; exact hlo4
            have hg5p : g5 ≠ p := by
              rcases hat5 with e | e
              · exact (HOb.out g5 e).2.2
              · rw [e]; exact Nat.ne_of_gt (Array.getElem?_eq_some_iff.1 hP4).1
            have HC4 := hide ((HCop.out ⟨nx, kd, a', c', M⟩).more (K' := K ++ [⟨nx, kd, a', c', M⟩]) (x := ⟨nx, kd, a', c', M⟩) hbr4 (World.grownBy.refl _ _) (fun i hi => iAt_app_lt (by rw [HKn.out]; exact hi)) (by have e := iAt_app_eq K ⟨nx, kd, a', c', M⟩; rw [HKn.out] at e; exact e) (by have e := iAt_app_eq K ⟨nx, kd, a', c', M⟩; rw [HKn.out] at e; rw [e]) (fun hne => by obtain ⟨q, e, h1, o⟩ := hnew4.own hne; exact ⟨q, e, h1, o⟩) hnew4.2 hlo2 hgs)
            have st := box2_set0 hP5 (.slice (some ⟨g5, 0, none⟩) (n + 1) c5)
            have HC6 := hide (HC4.out.rebase3 (w' := w5.setCell ⟨p, 0, none⟩ (.slice (some ⟨g5, 0, none⟩) (n + 1) c5)) (g' := g5) hP4 (fun q hq hne hnp => (st.2.block q (Nat.lt_of_lt_of_le hq hg5.size) (fun e => hnp (Option.some.inj e))).trans (hg5.block q hq (fun e => hne (HOb.out q e.symm).1))) (by rcases hat5 with e | e; exact .inl (HOb.out g5 e).1; exact .inr (Nat.le_of_eq e.symm)))
            have HO6 := hide (ownsRow_up (ownsRow_sameB (w' := w5.setCell ⟨p, 0, none⟩ (.slice (some ⟨g5, 0, none⟩) (n + 1) c5)) ho5 (fun q e => by have e1 : g5 = q := Option.some.inj e; subst e1; exact st.2.block g5 hlt5 (fun e => hg5p (Option.some.inj e)))) hg5l)
            have hB6 := hB5.grown st.2 (Nat.le_trans hlo4 hg5.size) (fun q e => by have e2 : p = q := Option.some.inj e; rw [← e2]; exact hlop)
            have hF6 := box_gr hF5 st.2 HFp.out
            have hP6 := st.1
            have S6 := sA hP6 hF6
            have HLen : Hid ((K ++ [(⟨nx, kd, a', c', M⟩ : It)]).length = n + 1) := by unfold Hid; rw [List.length_append, HKn.out]; rfl
            refine hK.out _ _ S5 (fun hHeld => ?_)
            clear hK Kk
            refine wpAnyH_take (i := 14) (oi := Oper.mk (some 41) _ _ _ _ _) (v := ?v19) rfl (by kernel_rfl) (by kernel_rfl) (by kernel_rfl) (fun _ _ _ h => h) (Or.inl ⟨by rfl, ?y19⟩) hHeld ?r19
            case y19 => (intro W hSW; obtain ⟨q0, q1, q2⟩ := hSW; go_simp; try with_reducible rfl)
            simp only [Act.put, List.setIfInBounds_toArray, List.set_cons_zero, List.set_cons_succ]
            refine wpAnyH_take (i := 15) (oi := Oper.mk (some 42) _ _ _ _ _) (v := ?v20) rfl (by kernel_rfl) (by kernel_rfl) (by kernel_rfl) (fun _ _ _ h => h) (Or.inl ⟨by rfl, ?y20⟩) hHeld ?r20
            case y20 => (intro W hSW; obtain ⟨q0, q1, q2⟩ := hSW; go_simp; try with_reducible rfl)
            simp only [Act.put, List.setIfInBounds_toArray, List.set_cons_zero, List.set_cons_succ]
            refine wpAnyH_ready (rs := [16]) (by kernel_rfl) (by simp) (AllReadyH.cons (o := Oper.mk none _ _ _ _ _) rfl (fun Kk hK => ?_) AllReadyH.nil)
            go_simp
            refine hK.out _ _ S6 (fun hHeld => ?_)
            clear hK Kk
            refine wpAnyH_done (by kernel_rfl) ?_ _
            have st2 := box2_set1 hP6 (.int .i64 (nx + 1))
            have HP7 := hide st2.1
            have HB7 := hide (hB6.grown st2.2 (Nat.le_trans (Nat.le_trans hlo4 hg5.size) st.2.size) (fun q e => by have e2 : p = q := Option.some.inj e; rw [← e2]; exact hlop))
            have HC7 := hide (HC6.out.rebase3 (w' := (w5.setCell ⟨p, 0, none⟩ (.slice (some ⟨g5, 0, none⟩) (n + 1) c5)).setCell ⟨p, 1, none⟩ (.int .i64 (nx + 1))) (g' := g5) hP6 (fun q hq hne hnp => st2.2.block q hq (fun e => hnp (Option.some.inj e))) (.inl rfl))
            have HO7 := hide (ownsRow_sameB (w' := (w5.setCell ⟨p, 0, none⟩ (.slice (some ⟨g5, 0, none⟩) (n + 1) c5)).setCell ⟨p, 1, none⟩ (.int .i64 (nx + 1))) HO6.out (fun q e => by have e1 : g5 = q := Option.some.inj e; subst e1; exact st2.2.block g5 (Nat.lt_of_lt_of_le hlt5 st.2.size) (fun e => hg5p (Option.some.inj e))))
            obtain ⟨p0, p1, pf0, pf1⟩ := box2_cell hP6
            obtain ⟨m0, m1, -, -⟩ := box2_cell HP7.out
            have HD := hide (Copied.done (cp := c5) (by rw [HLen.out]; exact HC7.out) rfl hg5l (by rw [HLen.out]; exact HO7.out))
            clear S2 S3 S4 S5 S6 st st2 o5 o51 of0 of1 hHeld o4 hP5 hF5 hP4 hF4 hP3 hF3 ho5 hg5 HO4 HSrc hnew4 hB4 hbr4 ba4 o3 hbr3 hnew b3 HC4 HC6 HC7 HCop HO6 HO7 o2 hB5 hB6 hF6 hP2 hF2
            go_wp2
            go_ret
            exact ⟨by rw [HA.out]; rfl, some ⟨g5, 0, none⟩, c5, K ++ [⟨nx, kd, a', c', M⟩], by rw [HA.out, HLen.out]; exact HP7.out, .inr ⟨g5, rfl, HD.out.1⟩, by rw [HA.out, List.map_append]; rfl, HB7.out⟩
          · go_simp
            have ba4 := below_al w3 (.cells #[.int .i64 nx, .string kd, .slice a' M.length c'] 54)
            have hbr4 := hbr3.trans (ba4.mono hbr3.size)
            have hnew4 : NewV _ w2.heap.size a' c' M := hnew.later ba4
            have HSrc := hide (srcI w3 ⟨nx, kd, a', c', M⟩)
            have HO4 := hide (ownsRow_below hown2 hbr4)
            have hP4 := box_step hP2 hbr4
            have hF4 := box_step hF2 hbr4
            have S4 := sA hP4 hF4
            obtain ⟨o4, -, -, -⟩ := box2_cell hP4
            have hB4 : Below lo w _ := hB2.trans (hbr4.mono hlo2)
            refine hK.out _ _ S4 (fun hHeld => ?_)
            clear hK Kk
            refine wpAnyH_ready (rs := [4]) (by kernel_rfl) (by simp) (AllReadyH.cons (o := Oper.mk (some 31) _ _ _ _ _) rfl (fun Kk hK => ?_) AllReadyH.nil)
            go_simp
            refine hK.out _ _ S4 (fun hHeld => ?_)
            clear hK Kk
            refine wpAnyH_ready (rs := [13]) (by kernel_rfl) (by simp) (AllReadyH.cons (o := Oper.mk (some 40) _ _ _ _ _) rfl (fun Kk hK => ?_) AllReadyH.nil)
            refine step_append_lies _ rfl (.tmp 31) (.tmp 39) 27 rfl 0 54 i0 (.agg #[.int .i64 0, .string ⟨#[]⟩, .slice none 0 0]) 3 48 Tryd.underlying27 hi hz0 hz1 hz2 rfl (by omega) (.slice va n vc) n (rowOf It.cells K) rfl HO4.out ⟨w3.heap.size, 0, none⟩ 1 1 (It.cells ⟨nx, kd, a', c', M⟩) ?hx rfl HSrc.out (oneI _) (by omega) (by unfold maxLen; omega) (by omega) (Nat.zero_le _) _ rfl ?_
            case hx => simp [Act.eval]
            intro g5 c5 w5 ho5 hg5 hat5 hlt5
            rw [rowI_app] at ho5
            have hlo4 : lo ≤ (w3.alloc (.cells #[.int .i64 nx, .string kd, .slice a' M.length c'] 54)).heap.size := Nat.le_trans hlo2 hbr4.size
            have hB5 : Below lo w w5 := hB4.grown hg5 hlo4 (fun q e => (HOb.out q e).2.1)
            have hP5 := (hg5.block p (Array.getElem?_eq_some_iff.1 hP4).1 (fun e => (HOb.out p e.symm).2.2 rfl)).trans hP4
            have hF5 := (hg5.block w.heap.size (Array.getElem?_eq_some_iff.1 hF4).1 (fun e => by have := (HOb.out _ e.symm).2.1; have := (HOb.out _ e.symm).1; exact HFg.out this)).trans hF4
            have S5 := sA hP5 hF5
            obtain ⟨o5, o51, of0, of1⟩ := box2_cell hP5
            have hg5l : lo ≤ g5 := by
              rcases hat5 with e | e
              · exact (HOb.out g5 e).2.1
              · rw [e]; exact hlo4
            have hg5p : g5 ≠ p := by
              rcases hat5 with e | e
              · exact (HOb.out g5 e).2.2
              · rw [e]; exact Nat.ne_of_gt (Array.getElem?_eq_some_iff.1 hP4).1
            have HC4 := hide ((HCop.out ⟨nx, kd, a', c', M⟩).more (K' := K ++ [⟨nx, kd, a', c', M⟩]) (x := ⟨nx, kd, a', c', M⟩) hbr4 (World.grownBy.refl _ _) (fun i hi => iAt_app_lt (by rw [HKn.out]; exact hi)) (by have e := iAt_app_eq K ⟨nx, kd, a', c', M⟩; rw [HKn.out] at e; exact e) (by have e := iAt_app_eq K ⟨nx, kd, a', c', M⟩; rw [HKn.out] at e; rw [e]) (fun hne => by obtain ⟨q, e, h1, o⟩ := hnew4.own hne; exact ⟨q, e, h1, o⟩) hnew4.2 hlo2 hgs)
            have st := box2_set0 hP5 (.slice (some ⟨g5, 0, none⟩) (n + 1) c5)
            have HC6 := hide (HC4.out.rebase3 (w' := w5.setCell ⟨p, 0, none⟩ (.slice (some ⟨g5, 0, none⟩) (n + 1) c5)) (g' := g5) hP4 (fun q hq hne hnp => (st.2.block q (Nat.lt_of_lt_of_le hq hg5.size) (fun e => hnp (Option.some.inj e))).trans (hg5.block q hq (fun e => hne (HOb.out q e.symm).1))) (by rcases hat5 with e | e; exact .inl (HOb.out g5 e).1; exact .inr (Nat.le_of_eq e.symm)))
            have HO6 := hide (ownsRow_up (ownsRow_sameB (w' := w5.setCell ⟨p, 0, none⟩ (.slice (some ⟨g5, 0, none⟩) (n + 1) c5)) ho5 (fun q e => by have e1 : g5 = q := Option.some.inj e; subst e1; exact st.2.block g5 hlt5 (fun e => hg5p (Option.some.inj e)))) hg5l)
            have hB6 := hB5.grown st.2 (Nat.le_trans hlo4 hg5.size) (fun q e => by have e2 : p = q := Option.some.inj e; rw [← e2]; exact hlop)
            have hF6 := box_gr hF5 st.2 HFp.out
            have hP6 := st.1
            have S6 := sA hP6 hF6
            have HLen : Hid ((K ++ [(⟨nx, kd, a', c', M⟩ : It)]).length = n + 1) := by unfold Hid; rw [List.length_append, HKn.out]; rfl
            refine hK.out _ _ S5 (fun hHeld => ?_)
            clear hK Kk
            refine wpAnyH_take (i := 14) (oi := Oper.mk (some 41) _ _ _ _ _) (v := ?v21) rfl (by kernel_rfl) (by kernel_rfl) (by kernel_rfl) (fun _ _ _ h => h) (Or.inl ⟨by rfl, ?y21⟩) hHeld ?r21
            case y21 => (intro W hSW; obtain ⟨q0, q1, q2⟩ := hSW; go_simp; try with_reducible rfl)
            simp only [Act.put, List.setIfInBounds_toArray, List.set_cons_zero, List.set_cons_succ]
            refine wpAnyH_take (i := 15) (oi := Oper.mk (some 42) _ _ _ _ _) (v := ?v22) rfl (by kernel_rfl) (by kernel_rfl) (by kernel_rfl) (fun _ _ _ h => h) (Or.inl ⟨by rfl, ?y22⟩) hHeld ?r22
            case y22 => (intro W hSW; obtain ⟨q0, q1, q2⟩ := hSW; go_simp; try with_reducible rfl)
            simp only [Act.put, List.setIfInBounds_toArray, List.set_cons_zero, List.set_cons_succ]
            refine wpAnyH_ready (rs := [16]) (by kernel_rfl) (by simp) (AllReadyH.cons (o := Oper.mk none _ _ _ _ _) rfl (fun Kk hK => ?_) AllReadyH.nil)
            go_simp
            refine hK.out _ _ S6 (fun hHeld => ?_)
            clear hK Kk
            refine wpAnyH_done (by kernel_rfl) ?_ _
            have st2 := box2_set1 hP6 (.int .i64 (nx + 1))
            have HP7 := hide st2.1
            have HB7 := hide (hB6.grown st2.2 (Nat.le_trans (Nat.le_trans hlo4 hg5.size) st.2.size) (fun q e => by have e2 : p = q := Option.some.inj e; rw [← e2]; exact hlop))
            have HC7 := hide (HC6.out.rebase3 (w' := (w5.setCell ⟨p, 0, none⟩ (.slice (some ⟨g5, 0, none⟩) (n + 1) c5)).setCell ⟨p, 1, none⟩ (.int .i64 (nx + 1))) (g' := g5) hP6 (fun q hq hne hnp => st2.2.block q hq (fun e => hnp (Option.some.inj e))) (.inl rfl))
            have HO7 := hide (ownsRow_sameB (w' := (w5.setCell ⟨p, 0, none⟩ (.slice (some ⟨g5, 0, none⟩) (n + 1) c5)).setCell ⟨p, 1, none⟩ (.int .i64 (nx + 1))) HO6.out (fun q e => by have e1 : g5 = q := Option.some.inj e; subst e1; exact st2.2.block g5 (Nat.lt_of_lt_of_le hlt5 st.2.size) (fun e => hg5p (Option.some.inj e))))
            obtain ⟨p0, p1, pf0, pf1⟩ := box2_cell hP6
            obtain ⟨m0, m1, -, -⟩ := box2_cell HP7.out
            have HD := hide (Copied.done (cp := c5) (by rw [HLen.out]; exact HC7.out) rfl hg5l (by rw [HLen.out]; exact HO7.out))
            clear S2 S3 S4 S5 S6 st st2 o5 o51 of0 of1 hHeld o4 hP5 hF5 hP4 hF4 hP3 hF3 ho5 hg5 HO4 HSrc hnew4 hB4 hbr4 ba4 o3 hbr3 hnew b3 HC4 HC6 HC7 HCop HO6 HO7 o2 hB5 hB6 hF6 hP2 hF2
            go_wp2
            go_ret
            exact ⟨by rw [HA.out]; rfl, some ⟨g5, 0, none⟩, c5, K ++ [⟨nx, kd, a', c', M⟩], by rw [HA.out, HLen.out]; exact HP7.out, .inr ⟨g5, rfl, HD.out.1⟩, by rw [HA.out, List.map_append]; rfl, HB7.out⟩
end Go.Proofs.YtaflokfgbmlmaadDoor
/-
  A store's items, behind a write into the store's own block alone.
-/
namespace Go.Proofs.YtaflokfgbmlmaadDoor
open Go.RowKit
set_option linter.unusedVariables false

theorem HoldsI.other {w w' : World} {lo g cp p : Nat} {K : List It} {cs : Array Value} (h : HoldsI w lo g cp K) (hp : w.heap[p]? = some (.cells cs 29 (0, 0))) (hk : ∀ q, q < w.heap.size → q ≠ p → w'.heap[q]? = w.heap[q]?) : HoldsI w' lo g cp K := by
  refine ⟨ownsRow_sameB h.own (fun k e => ?_), h.low, fun i hi hne => ?_, h.apart, h.lies⟩
  · have e2 : g = k := Option.some.inj e
    subst e2
    exact hk g h.lt (fun e3 => row_ne_box h.own hp (by decide) e3.symm)
  · obtain ⟨q, e, h1, h2, o⟩ := h.vals i hi hne
    have hne2 : q ≠ p := fun e3 => row_ne_box o hp (by decide) e3.symm
    refine ⟨q, e, h1, h2, ownsRow_sameB o (fun k e4 => ?_)⟩
    have e5 : q = k := Option.some.inj e4
    rw [← e5]
    exact hk q o.lt hne2
theorem HV.grown {w w' : World} {lo n vc q : Nat} {va : Option Addr} {K : List It} (h : HV w lo n va vc K) (hg : w.grownBy w' (some q)) (hq : q < lo) : HV w' lo n va vc K :=
  h.imp id (fun ⟨g, e, o⟩ => ⟨g, e, o.grown hg hq⟩)
theorem HV.weaken {w : World} {lo lo' n vc : Nat} {va : Option Addr} {K : List It} (h : HV w lo n va vc K) (hl : lo' ≤ lo) : HV w lo' n va vc K :=
  h.imp id (fun ⟨g, e, o⟩ => ⟨g, e, o.weaken hl⟩)
theorem HV.rd {w : World} {lo n vc : Nat} {va : Option Addr} {K : List It} (h : HV w lo n va vc K) : RdI w va K := by
  rcases h with ⟨-, rfl, -, -⟩ | ⟨g, rfl, o⟩
  · exact RdI.nil _ _
  · exact o.rd
end Go.Proofs.YtaflokfgbmlmaadDoor
/-
  What allBytes answers of a function value whose answers are known: allB, in the world as it was.
-/
namespace Go.Proofs.YtaflokfgbmlmaadDoor
open Go.RowKit
set_option linter.unusedVariables false

def allB (P : Int → Bool) (s : ByteArray) : Bool := (List.range s.size).all (fun i => P (bat s i))
theorem allB_no {P : Int → Bool} {s : ByteArray} {i : Nat} (h : i < s.size) (hb : P (bat s i) = false) : allB P s = false := by
  unfold allB
  rw [← Bool.not_eq_true, List.all_eq_true]
  intro h2
  have := h2 i (by simpa using h)
  rw [hb] at this
  cases this
theorem allB_yes {P : Int → Bool} {s : ByteArray} (h : ∀ i, i < s.size → P (bat s i) = true) : allB P s = true := by
  unfold allB
  rw [List.all_eq_true]
  intro i hi
  exact h i (by simpa using hi)

set_option maxHeartbeats 800000 in
theorem allBytesWord_any (s : ByteArray) (w : World) (hs : s.size ≤ maxLen) :
    Calls Tryd.prog 94 #[.string s, .func (.func 95) #[] #[]] w fun e w' => e = .returned (.bool (allB wordB s)) ∧ w' = w := by
  unfold maxLen at hs
  go_enter Tryd.func94, Tryd.ntmps94
  go_wp2
  go_loop [8] (fun i => ∃ k : Nat, k ≤ s.size ∧ i = .int .i64 k ∧ ∀ j, j < k → wordB (bat s j) = true) (fun i => s.size - (intOf i).toNat)
  case atStart => exact ⟨0, Nat.zero_le _, rfl, fun j hj => absurd hj (Nat.not_lt_zero _)⟩
  case round =>
    obtain ⟨k, hk, rfl, hall⟩ := hrel
    have HA := hide hall
    clear hall
    by_cases hlt : k < s.size
    · have HB := hide (bat_in hlt)
      cases hw : wordB ((s[k]'hlt).toNat : Int)
      · have HN := hide (allB_no (P := wordB) hlt (by rw [HB.out, hw]))
        go_wp2_with (go_at_call 95; refine (isWordByte_any _ _).mono ?_; rintro e w' ⟨rfl, rfl⟩)
        go_ret
        exact ⟨ret_bool HN.out.symm, rfl⟩
      · have HW := hide hw
        go_wp2_with (go_at_call 95; refine (isWordByte_any _ _).mono ?_; rintro e w' ⟨rfl, rfl⟩)
        go_round
        case rel => exact ⟨k + 1, by omega, by go_num, fun j hj => by
          by_cases hjk : j = k
          · rw [hjk, HB.out, HW.out]
          · exact HA.out j (by omega)⟩
        case measure => simp [intOf]; omega
    · have HN := hide (allB_yes (P := wordB) fun i hi => HA.out i (by omega))
      go_wp2
      go_ret
      exact ⟨ret_bool HN.out.symm, rfl⟩
end Go.Proofs.YtaflokfgbmlmaadDoor
/-
  What the functions on a value's text answer, the tested one and the model alike: textB of the text, in the world as it was.
-/
namespace Go.Proofs.YtaflokfgbmlmaadDoor
open Go.RowKit
set_option linter.unusedVariables false

/-- may a text be a value's? -/
def textB (s : ByteArray) : Bool := (List.range s.size).all (fun i => wordB (bat s i)) && decide (s.size ≤ 20)

theorem textB_no {s : ByteArray} {i : Nat} (h : i < s.size) (hb : wordB (bat s i) = false) : textB s = false := by
  unfold textB
  rw [Bool.and_eq_false_iff]
  left
  rw [← Bool.not_eq_true, List.all_eq_true]
  intro h2
  have := h2 i (by simpa using h)
  rw [hb] at this
  cases this
theorem textB_all {s : ByteArray} (h : ∀ i, i < s.size → wordB (bat s i) = true) : textB s = decide (s.size ≤ 20) := by
  unfold textB
  have : (List.range s.size).all (fun i => wordB (bat s i)) = true := by
    rw [List.all_eq_true]; intro i hi; exact h i (by simpa using hi)
  rw [this]; simp
theorem textB_size {s : ByteArray} (h : ¬ s.size ≤ 20) : textB s = false := by
  unfold textB
  rw [Bool.and_eq_false_iff]
  right
  simpa using h
theorem textB_le {s : ByteArray} (h : textB s = true) : s.size ≤ 20 := by
  by_cases h2 : s.size ≤ 20
  · exact h2
  · rw [textB_size h2] at h; cases h

set_option maxHeartbeats 800000 in
theorem l2Plain_any (s : ByteArray) (w : World) (hs : s.size ≤ maxLen) :
    Calls Tryd.prog 92 #[.string s] w fun e w' => e = .returned (.bool (textB s)) ∧ w' = w := by
  unfold maxLen at hs
  go_enter Tryd.func92, Tryd.ntmps92
  go_wp2
  go_loop [3] (fun i => ∃ k : Nat, k ≤ s.size ∧ i = .int .i64 k ∧ ∀ j, j < k → wordB (bat s j) = true) (fun i => s.size - (intOf i).toNat)
  case atStart => exact ⟨0, Nat.zero_le _, rfl, fun j hj => absurd hj (Nat.not_lt_zero _)⟩
  case round =>
    obtain ⟨k, hk, rfl, hall⟩ := hrel
    have HA := hide hall
    clear hall
    by_cases hlt : k < s.size
    · have hlb : 0 ≤ ((s[k]'hlt).toNat : Int) := by omega
      have hub : ((s[k]'hlt).toNat : Int) ≤ 255 := by have := (s[k]'hlt).toNat_lt; omega
      have HB := hide (bat_in hlt)
      cases hw : wordB ((s[k]'hlt).toNat : Int)
      · have HN := hide (textB_no hlt (by rw [HB.out, hw]))
        go_wp2_with (go_at_call 80; refine (l1Letter_any _ _ (by omega) (by omega)).mono ?_; rintro e w' ⟨rfl, rfl⟩)
        go_ret
        exact ⟨ret_bool HN.out.symm, rfl⟩
      · have HW := hide hw
        go_wp2_with (go_at_call 80; refine (l1Letter_any _ _ (by omega) (by omega)).mono ?_; rintro e w' ⟨rfl, rfl⟩)
        go_round
        case rel => exact ⟨k + 1, by omega, by go_num, fun j hj => by
          by_cases hjk : j = k
          · rw [hjk, HB.out, HW.out]
          · exact HA.out j (by omega)⟩
        case measure => simp [intOf]; omega
    · have HN := hide (textB_all fun i hi => HA.out i (by omega))
      go_wp2
      go_ret
      exact ⟨ret_bool (by rw [HN.out]; simp; omega), rfl⟩

theorem textB_tail {s : ByteArray} (h : s.size ≤ 20) : textB s = allB wordB s := by
  unfold textB allB
  rw [decide_eq_true h, Bool.and_true]

set_option maxHeartbeats 800000 in
theorem isTextOfVal_any (s : ByteArray) (w : World) (hs : s.size ≤ maxLen) :
    Calls Tryd.prog 96 #[.string s] w fun e w' => e = .returned (.bool (textB s)) ∧ w' = w := by
  have hs2 := hs
  unfold maxLen at hs2
  by_cases h2 : s.size ≤ 20
  · have HN := hide (textB_tail h2)
    go_enter Tryd.func96, Tryd.ntmps96
    go_wp2_with fail
    refine (allBytesWord_any _ _ hs).mono ?_
    rintro e w' ⟨rfl, rfl⟩
    generalize allB wordB s = r at HN ⊢
    go_wp2
    go_ret
    exact ⟨ret_bool HN.out.symm, rfl⟩
  · rw [textB_size h2]
    go_enter Tryd.func96, Tryd.ntmps96
    go_wp2
    go_ret
    exact ⟨rfl, rfl⟩
end Go.Proofs.YtaflokfgbmlmaadDoor
/-
  Small facts on empty texts and on boxes that a call has made.
-/
namespace Go.Proofs.YtaflokfgbmlmaadDoor
open Go.RowKit
set_option linter.unusedVariables false

theorem empty_of_size {S : ByteArray} (h : S.size = 0) : S = ⟨#[]⟩ := by
  cases S with
  | mk d =>
    have : d.size = 0 := h
    rw [Array.size_eq_zero_iff] at this
    rw [this]
theorem bcell {W w1 : World} (hb : Below W.heap.size W w1) : (∀ b o, b < W.heap.size → w1.cell? ⟨b, o, none⟩ = W.cell? ⟨b, o, none⟩) ∧ (∀ b o, b < W.heap.size → w1.frozen? ⟨b, o, none⟩ = W.frozen? ⟨b, o, none⟩) :=
  ⟨fun b o h => hb.cell (p := ⟨b, o, none⟩) h, fun b o h => hb.frozen (p := ⟨b, o, none⟩) h⟩
theorem below_box {w w' : World} {o : Obj} (hb : Below (w.alloc o).drew.heap.size (w.alloc o).drew w') : Below w.heap.size w w' :=
  (((Below.refl w.heap.size w).alloc (Nat.le_refl _) o).drew).trans (hb.mono (by simp))
theorem below_boxN (w : World) (o : Obj) (n : Nat) : Below w.heap.size w ((w.alloc o).drewN n) :=
  ((Below.refl w.heap.size w).alloc (Nat.le_refl _) o).trans ⟨rfl, rfl, rfl, Nat.le_refl _, fun _ _ => rfl⟩
theorem isEmpty_false {S : ByteArray} (h : S.size ≠ 0) : S.toList.isEmpty = false := by
  rw [ByteArray.toList_eq]
  cases hd : S.data.toList with
  | nil =>
    exfalso; apply h
    have e : S.data.toList.length = S.size := by rw [Array.length_toList]; rfl
    rw [hd] at e; simpa using e.symm
  | cons a r => rfl
end Go.Proofs.YtaflokfgbmlmaadDoor
/-
  What the functions on values answer: valB of the value, the tested ones and the model alike; nothing that was there has turned.
-/
namespace Go.Proofs.YtaflokfgbmlmaadDoor
open Go.RowKit
set_option linter.unusedVariables false

/-- is a value right? -/
def valB (K N : Int) (S : ByteArray) : Bool := (K == 1 && inB N (-1000000000) 1000000000 && decide (S.size = 0)) || (K == 2 && textB S && N == 0)
theorem valB_num {N : Int} (S : ByteArray) (h : -1000000000 ≤ N ∧ N ≤ 1000000000) : valB 1 N S = decide (S.size = 0) := by
  simp [valB, inB_t h]
theorem valB_out {N : Int} (S : ByteArray) (h : ¬ (-1000000000 ≤ N ∧ N ≤ 1000000000)) : valB 1 N S = false := by
  simp [valB, inB_f h]
theorem valB_text (N : Int) (S : ByteArray) : valB 2 N S = (textB S && N == 0) := by
  simp [valB]
theorem valB_none {K : Int} (N : Int) (S : ByteArray) (h1 : K ≠ 1) (h2 : K ≠ 2) : valB K N S = false := by
  simp [valB, h1, h2]

set_option maxHeartbeats 400000 in
theorem asValNum_any (n : Int) (w : World) :
    Calls Tryd.prog 135 #[.int .i64 n] w fun e w' => e = .returned (.agg #[.int .i64 1, .int .i64 n, .string ⟨#[]⟩]) ∧ Below w.heap.size w w' := by
  go_enter Tryd.func135, Tryd.ntmps135
  go_wp2
  go_returns
  exact ⟨rfl, by go_grown⟩

set_option maxHeartbeats 400000 in
theorem asValText_any (s : ByteArray) (w : World) :
    Calls Tryd.prog 136 #[.string s] w fun e w' => e = .returned (.agg #[.int .i64 2, .int .i64 0, .string s]) ∧ Below w.heap.size w w' := by
  go_enter Tryd.func136, Tryd.ntmps136
  go_wp2
  go_returns
  exact ⟨rfl, by go_grown⟩

/-- what spokenOf answers -/
def spokV (K N : Int) (S : ByteArray) : Value :=
  if valB K N S then (if K = 1 then .iface 127 (.int .i64 N) else .iface 128 (.string S)) else .nilIface
theorem spokV_one {N : Int} {S : ByteArray} (h : valB 1 N S = true) : spokV 1 N S = .iface 127 (.int .i64 N) := by simp [spokV, h]
theorem spokV_two {N : Int} {S : ByteArray} (h : valB 2 N S = true) : spokV 2 N S = .iface 128 (.string S) := by simp [spokV, h]
theorem spokV_no {K N : Int} {S : ByteArray} (h : valB K N S = false) : spokV K N S = .nilIface := by simp [spokV, h]

set_option maxHeartbeats 1600000 in
theorem spokenOf_any (K N : Int) (S : ByteArray) (w : World) (hs : S.size ≤ maxLen) :
    Calls Tryd.prog 85 #[.agg #[.int .i64 K, .int .i64 N, .string S]] w fun e w' =>
      e = .returned (spokV K N S) ∧ Below w.heap.size w w' := by
  by_cases hK : K = 1
  · subst hK
    by_cases h1 : -1000000000 ≤ N
    · by_cases h2 : N ≤ 1000000000
      · by_cases hS : S.size = 0
        · rw [spokV_one (by rw [valB_num S ⟨h1, h2⟩]; simpa using hS)]
          obtain rfl := empty_of_size hS
          clear hS
          go_enter Tryd.func85, Tryd.ntmps85
          go_wp2
          go_region_with (go_at_call 135; refine (asValNum_any _ _).mono ?_; rintro e w' ⟨rfl, hb⟩; obtain ⟨hc, hf⟩ := bcell hb)
          all_goals go_wp2
          all_goals go_ret
          all_goals exact ⟨rfl, below_box hb⟩
        · rw [spokV_no (by rw [valB_num S ⟨h1, h2⟩]; simpa using hS)]
          have hE := isEmpty_false hS
          clear hS
          go_enter Tryd.func85, Tryd.ntmps85
          go_wp2
          go_region_with (go_at_call 135; refine (asValNum_any _ _).mono ?_; rintro e w' ⟨rfl, hb⟩; obtain ⟨hc, hf⟩ := bcell hb)
          all_goals go_wp2
          all_goals go_ret
          all_goals exact ⟨rfl, below_box hb⟩
      · rw [spokV_no (valB_out S (by omega))]
        go_enter Tryd.func85, Tryd.ntmps85
        go_wp2
        go_quiet (fail)
        go_wp2
        go_ret
        exact ⟨rfl, below_boxN _ _ _⟩
    · rw [spokV_no (valB_out S (by omega))]
      go_enter Tryd.func85, Tryd.ntmps85
      go_wp2
      go_quiet (fail)
      go_wp2
      go_ret
      exact ⟨rfl, below_boxN _ _ _⟩
  · have hk1 : (K == 1) = false := by simpa using hK
    by_cases hK2 : K = 2
    · subst hK2
      clear hk1 hK
      cases ht : textB S
      · rw [spokV_no (by rw [valB_text, ht]; rfl)]
        go_enter Tryd.func85, Tryd.ntmps85
        go_wp2_with (go_at_call 96; refine (isTextOfVal_any _ _ hs).mono ?_; rintro e w' ⟨rfl, rfl⟩)
        go_quiet (fail)
        go_wp2
        go_ret
        exact ⟨rfl, below_boxN _ _ _⟩
      · by_cases hN : N = 0
        · rw [spokV_two (by rw [valB_text, ht, hN]; rfl)]
          subst hN
          go_enter Tryd.func85, Tryd.ntmps85
          go_wp2_with (go_at_call 96; refine (isTextOfVal_any _ _ hs).mono ?_; rintro e w' ⟨rfl, rfl⟩)
          go_region_with (go_at_call 136; refine (asValText_any _ _).mono ?_; rintro e w' ⟨rfl, hb⟩; obtain ⟨hc, hf⟩ := bcell hb)
          all_goals go_wp2
          all_goals go_ret
          all_goals exact ⟨rfl, below_box hb⟩
        · rw [spokV_no (by rw [valB_text, ht]; simpa using hN)]
          have hn0 : ((0 : Int) == N) = false := by simp; omega
          clear hN
          go_enter Tryd.func85, Tryd.ntmps85
          go_wp2_with (go_at_call 96; refine (isTextOfVal_any _ _ hs).mono ?_; rintro e w' ⟨rfl, rfl⟩)
          go_region_with (go_at_call 136; refine (asValText_any _ _).mono ?_; rintro e w' ⟨rfl, hb⟩; obtain ⟨hc, hf⟩ := bcell hb)
          all_goals go_wp2
          all_goals go_ret
          all_goals exact ⟨rfl, below_box hb⟩
    · rw [spokV_no (valB_none N S hK hK2)]
      have hk2 : (K == 2) = false := by simpa using hK2
      clear hK hK2
      go_enter Tryd.func85, Tryd.ntmps85
      go_wp2
      go_quiet (fail)
      go_wp2
      go_ret
      exact ⟨rfl, below_boxN _ _ _⟩

theorem spokV_nil (K N : Int) (S : ByteArray) : (valB K N S = true ∧ ∃ t v, spokV K N S = .iface t v) ∨ (valB K N S = false ∧ spokV K N S = .nilIface) := by
  cases h : valB K N S
  · exact .inr ⟨rfl, spokV_no h⟩
  · left
    refine ⟨rfl, ?_⟩
    unfold spokV
    rw [h]
    by_cases hk : K = 1
    · exact ⟨_, _, by rw [if_pos rfl, if_pos hk]⟩
    · exact ⟨_, _, by rw [if_pos rfl, if_neg hk]⟩

set_option maxHeartbeats 1600000 in
theorem implValOk_any (K N : Int) (S : ByteArray) (w : World) (hs : S.size ≤ maxLen) :
    Calls Tryd.prog 67 #[.agg #[.int .i64 K, .int .i64 N, .string S]] w fun e w' =>
      e = .returned (.bool (valB K N S)) ∧ Below w.heap.size w w' := by
  go_enter Tryd.func67, Tryd.ntmps67
  go_wp2_with fail
  refine (spokenOf_any K N S _ hs).mono ?_
  rintro e w1 ⟨rfl, hb⟩
  have hb1 : Below w.heap.size w w1 := ((Below.refl w.heap.size w).alloc (Nat.le_refl _) _).trans (hb.mono (by simp))
  clear hb
  rcases spokV_nil K N S with ⟨h1, t, v, h2⟩ | ⟨h1, h2⟩
  · rw [h2]
    have H1 := hide h1
    clear h1 h2
    go_wp2
    go_ret
    exact ⟨ret_bool H1.out.symm, hb1⟩
  · rw [h2]
    have H1 := hide h1
    clear h1 h2
    go_wp2
    go_ret
    exact ⟨ret_bool H1.out.symm, hb1⟩

set_option maxHeartbeats 1600000 in
theorem specValOk_any (K N : Int) (S : ByteArray) (w : World) (hs : S.size ≤ maxLen) :
    Calls Tryd.prog 81 #[.agg #[.int .i64 K, .int .i64 N, .string S]] w fun e w' =>
      e = .returned (.bool (valB K N S)) ∧ w.grownBy w' none := by
  by_cases hK : K = 1
  · subst hK
    cases hi : inB N (-1000000000) 1000000000
    · have HV : Hid (valB 1 N S = false) := by unfold Hid valB; rw [hi]; simp
      go_enter Tryd.func81, Tryd.ntmps81
      go_wp2_with (go_at_call 30; refine (l1In_any _ _ _ _).mono ?_; rintro e w' ⟨rfl, rfl⟩)
      go_ret
      exact ⟨ret_bool HV.out.symm, World.grownBy_alloc _ _ _⟩
    · by_cases hS : S.size = 0
      · obtain rfl := empty_of_size hS
        have HV : Hid (valB 1 N ⟨#[]⟩ = true) := by unfold Hid valB; rw [hi]; rfl
        clear hS
        go_enter Tryd.func81, Tryd.ntmps81
        go_wp2_with (go_at_call 30; refine (l1In_any _ _ _ _).mono ?_; rintro e w' ⟨rfl, rfl⟩)
        go_ret
        exact ⟨ret_bool HV.out.symm, World.grownBy_alloc _ _ _⟩
      · have HV : Hid (valB 1 N S = false) := by unfold Hid valB; rw [hi]; simpa using hS
        have hE := isEmpty_false hS
        clear hS
        go_enter Tryd.func81, Tryd.ntmps81
        go_wp2_with (go_at_call 30; refine (l1In_any _ _ _ _).mono ?_; rintro e w' ⟨rfl, rfl⟩)
        go_ret
        exact ⟨ret_bool HV.out.symm, World.grownBy_alloc _ _ _⟩
  · have hk1 : (K == 1) = false := by simpa using hK
    by_cases hK2 : K = 2
    · subst hK2
      clear hk1 hK
      have HV := hide (valB_text N S)
      cases ht : textB S
      · rw [ht] at HV
        go_enter Tryd.func81, Tryd.ntmps81
        go_wp2_with (go_at_call 92; refine (l2Plain_any _ _ hs).mono ?_; rintro e w' ⟨rfl, rfl⟩)
        go_ret
        exact ⟨ret_bool HV.out.symm, World.grownBy_alloc _ _ _⟩
      · rw [ht] at HV
        go_enter Tryd.func81, Tryd.ntmps81
        go_wp2_with (go_at_call 92; refine (l2Plain_any _ _ hs).mono ?_; rintro e w' ⟨rfl, rfl⟩)
        go_ret
        exact ⟨ret_bool HV.out.symm, World.grownBy_alloc _ _ _⟩
    · have HV := hide (valB_none N S hK hK2)
      have hk2 : (K == 2) = false := by simpa using hK2
      clear hK hK2
      go_enter Tryd.func81, Tryd.ntmps81
      go_wp2
      go_ret
      exact ⟨ret_bool HV.out.symm, World.grownBy_alloc _ _ _⟩
end Go.Proofs.YtaflokfgbmlmaadDoor
/-
  When a value is right, of its three parts at once.
-/
namespace Go.Proofs.YtaflokfgbmlmaadDoor

def V3.ok (v : V3) : Bool := valB v.K v.N v.S
end Go.Proofs.YtaflokfgbmlmaadDoor
/-
  What the functions on names answer, the tested one and the model alike: nameB of the text, in the world as it was.
-/
namespace Go.Proofs.YtaflokfgbmlmaadDoor
open Go.RowKit
set_option linter.unusedVariables false

def headB (s : ByteArray) (i : Nat) : Bool := wordB (bat s i) && (i != 0 || inB (bat s i) 97 122)
def nameB (s : ByteArray) : Bool := (List.range s.size).all (headB s) && inB s.size 1 12

theorem nameB_no {s : ByteArray} {i : Nat} (h : i < s.size) (hb : headB s i = false) : nameB s = false := by
  unfold nameB
  rw [Bool.and_eq_false_iff]
  left
  rw [← Bool.not_eq_true, List.all_eq_true]
  intro h2
  have := h2 i (by simpa using h)
  rw [hb] at this
  cases this

theorem nameB_all {s : ByteArray} (h : ∀ i, i < s.size → headB s i = true) : nameB s = inB s.size 1 12 := by
  unfold nameB
  have : (List.range s.size).all (headB s) = true := by
    rw [List.all_eq_true]; intro i hi; exact h i (by simpa using hi)
  rw [this]; simp


set_option maxHeartbeats 800000 in
theorem specNameOk_any (s : ByteArray) (w : World) (hs : s.size ≤ maxLen) :
    Calls Tryd.prog 57 #[.string s] w fun e w' => e = .returned (.bool (nameB s)) ∧ w' = w := by
  unfold maxLen at hs
  go_enter Tryd.func57, Tryd.ntmps57
  go_wp2
  go_loop [3] (fun i => ∃ k : Nat, k ≤ s.size ∧ i = .int .i64 k ∧ ∀ j, j < k → headB s j = true) (fun i => s.size - (intOf i).toNat)
  case atStart => exact ⟨0, Nat.zero_le _, rfl, fun j hj => absurd hj (Nat.not_lt_zero _)⟩
  case round =>
    obtain ⟨k, hk, rfl, hall⟩ := hrel
    have HA := hide hall
    clear hall
    by_cases hlt : k < s.size
    · have hlb : 0 ≤ ((s[k]'hlt).toNat : Int) := by omega
      have hub : ((s[k]'hlt).toNat : Int) ≤ 255 := by have := (s[k]'hlt).toNat_lt; omega
      have HH : Hid (headB s k = (wordB ((s[k]'hlt).toNat : Int) && (k != 0 || inB ((s[k]'hlt).toNat : Int) 97 122))) := by
        unfold Hid headB; rw [bat_in hlt]
      cases hw : wordB ((s[k]'hlt).toNat : Int)
      · go_wp2_with (first | (go_at_call 80; refine (l1Letter_any _ _ (by omega) (by omega)).mono ?_; rintro e w' ⟨rfl, rfl⟩))
        rw [nameB_no hlt (by rw [HH.out, hw]; rfl)]
        go_ret
        exact ⟨rfl, rfl⟩
      · by_cases hk0 : 0 < k
        · go_wp2_with (first | (go_at_call 80; refine (l1Letter_any _ _ (by omega) (by omega)).mono ?_; rintro e w' ⟨rfl, rfl⟩))
          go_round
          case rel => exact ⟨k + 1, by omega, by go_num, fun j hj => by
            by_cases hjk : j = k
            · rw [hjk, HH.out, hw]; simp; omega
            · exact HA.out j (by omega)⟩
          case measure => simp [intOf]; omega
        · have h00 : 0 < s.size := by omega
          have hlb0 : 0 ≤ ((s[0]'h00).toNat : Int) := by omega
          have hub0 : ((s[0]'h00).toNat : Int) ≤ 255 := by have := (s[0]'h00).toNat_lt; omega
          have HK : Hid (∀ b, inB ((s[0]'h00).toNat : Int) 97 122 = b → headB s 0 = b) := by
            intro b hb
            have e : k = 0 := by omega
            subst e
            rw [HH.out, hw, hb]; simp
          clear HH
          cases hi : inB ((s[0]'h00).toNat : Int) 97 122
          · go_wp2_with (first | (go_at_call 80; refine (l1Letter_any _ _ (by omega) (by omega)).mono ?_; rintro e w' ⟨rfl, rfl⟩) | (go_at_call 30; refine (l1In_any _ _ _ _).mono ?_; rintro e w' ⟨rfl, rfl⟩))
            rw [nameB_no h00 (HK.out _ hi)]
            go_ret
            exact ⟨rfl, rfl⟩
          · go_wp2_with (first | (go_at_call 80; refine (l1Letter_any _ _ (by omega) (by omega)).mono ?_; rintro e w' ⟨rfl, rfl⟩) | (go_at_call 30; refine (l1In_any _ _ _ _).mono ?_; rintro e w' ⟨rfl, rfl⟩))
            go_round
            case rel => exact ⟨1, by omega, by go_num, fun j hj => by
              obtain rfl : j = 0 := by omega
              exact HK.out _ hi⟩
            case measure => simp [intOf]; omega
    · have HN := hide (nameB_all fun i hi => HA.out i (by omega))
      go_wp2_with (first | (go_at_call 30; refine (l1In_any _ _ _ _).mono ?_; rintro e w' ⟨rfl, rfl⟩))
      go_ret
      exact ⟨ret_bool HN.out.symm, rfl⟩

theorem nameB_size {s : ByteArray} (h : ¬ (1 ≤ s.size ∧ s.size ≤ 12)) : nameB s = false := by
  unfold nameB
  rw [Bool.and_eq_false_iff]
  right
  exact inB_f (by omega)

theorem nameB_tail {s : ByteArray} (h1 : 1 ≤ s.size) (h2 : s.size ≤ 12) (hi : inB (bat s 0) 97 122 = true) : nameB s = allB wordB s := by
  unfold nameB allB
  rw [inB_t (by omega), Bool.and_true]
  rw [Bool.eq_iff_iff, List.all_eq_true, List.all_eq_true]
  have e : ∀ i, headB s i = wordB (bat s i) := fun i => by
    unfold headB
    by_cases h0 : i = 0
    · subst h0; rw [hi]; simp
    · have : (i != 0) = true := by simpa using h0
      rw [this]; simp
  constructor
  · intro h i hm; rw [← e]; exact h i hm
  · intro h i hm; rw [e]; exact h i hm

set_option maxHeartbeats 800000 in
theorem implNameOk_any (s : ByteArray) (w : World) (hs : s.size ≤ maxLen) :
    Calls Tryd.prog 83 #[.string s] w fun e w' => e = .returned (.bool (nameB s)) ∧ w' = w := by
  have hs2 := hs
  unfold maxLen at hs2
  by_cases h1 : 1 ≤ s.size
  · by_cases h2 : s.size ≤ 12
    · have h0 : 0 < s.size := h1
      have HI : Hid (bat s 0 = ((s[0]'h0).toNat : Int)) := bat_in h0
      cases hi : inB ((s[0]'h0).toNat : Int) 97 122
      · rw [nameB_no h0 (by unfold headB; rw [HI.out, hi]; simp)]
        go_enter Tryd.func83, Tryd.ntmps83
        go_wp2_with (first | (go_at_call 93; refine (isSmall_any _ _).mono ?_; rintro e w' ⟨rfl, rfl⟩))
        go_ret
        exact ⟨rfl, rfl⟩
      · have HN := hide (nameB_tail h1 h2 (by rw [HI.out, hi]))
        go_enter Tryd.func83, Tryd.ntmps83
        go_wp2_with fail
        refine (isSmall_any _ _).mono ?_
        rintro e w' ⟨rfl, rfl⟩
        rw [hi]
        go_wp2_with fail
        refine (allBytesWord_any _ _ hs).mono ?_
        rintro e w' ⟨rfl, rfl⟩
        generalize allB wordB s = r at HN ⊢
        go_wp2
        go_ret
        exact ⟨ret_bool HN.out.symm, rfl⟩
    · rw [nameB_size (by omega)]
      go_enter Tryd.func83, Tryd.ntmps83
      go_wp2
      go_ret
      exact ⟨rfl, rfl⟩
  · rw [nameB_size (by omega)]
    go_enter Tryd.func83, Tryd.ntmps83
    go_wp2
    go_ret
    exact ⟨rfl, rfl⟩


end Go.Proofs.YtaflokfgbmlmaadDoor
/-
  What the functions on a fact's rightness answer: factB, the tested one and the model alike.
-/
namespace Go.Proofs.YtaflokfgbmlmaadDoor
open Go.RowKit
set_option linter.unusedVariables false

def factB (kd : ByteArray) (L : List V3) : Bool := nameB kd && decide (L.length ≤ 5) && L.all V3.ok
theorem all_no {L : List V3} {k : Nat} (hk : k < L.length) (h : valB (vAt L k).K (vAt L k).N (vAt L k).S = false) : L.all V3.ok = false := by
  rw [Bool.eq_false_iff]
  intro ha
  have := List.all_eq_true.1 ha L[k] (List.getElem_mem hk)
  rw [← vAt_in hk] at this
  unfold V3.ok at this
  rw [h] at this; cases this
theorem all_yes {L : List V3} (h : ∀ k, k < L.length → valB (vAt L k).K (vAt L k).N (vAt L k).S = true) : L.all V3.ok = true := by
  rw [List.all_eq_true]
  intro v hv
  obtain ⟨k, hk, rfl⟩ := List.getElem_of_mem hv
  rw [← vAt_in hk]; exact h k hk
theorem below_gn {w w' : World} (h : w.grownBy w' none) : Below w.heap.size w w' := (Below.refl _ _).grown h (Nat.le_refl _) (fun k hk => by cases hk)

set_option maxHeartbeats 1600000 in
theorem l3Vals_any (a : Option Addr) (cap : Nat) (L : List V3) (w : World) (hr : RdV w a L) (hs : ∀ v ∈ L, v.S.size ≤ maxLen) (hm : L.length ≤ 1048580) :
    Calls Tryd.prog 58 #[.slice a L.length cap] w fun e w' =>
      e = .returned (.bool (L.all V3.ok && decide (L.length ≤ 5))) ∧ Below w.heap.size w w' := by
  obtain ⟨n, hN⟩ : ∃ n, n = L.length := ⟨_, rfl⟩
  rw [← hN] at hm ⊢
  have HN := hide hN
  have HS := hide hs
  clear hN hs
  go_enter Tryd.func58, Tryd.ntmps58
  go_wp2
  go_loopw [3] (fun i wr => ∃ (k : Nat), k ≤ n ∧ i = .int .i64 k ∧ (∀ j, j < k → valB (vAt L j).K (vAt L j).N (vAt L j).S = true) ∧ Below w.heap.size w wr) (fun i _ => n - (intOf i).toNat)
  case atStart => exact ⟨0, Nat.zero_le _, rfl, fun j hj => absurd hj (Nat.not_lt_zero _), Below.refl _ _⟩
  case round =>
    obtain ⟨k, hk, rfl, hall, hbel⟩ := hrel
    have HA := hide hall
    clear hall
    by_cases hlt : k < n
    · obtain ⟨b, off, hab, hbw, hc⟩ := hr.open (by rw [← HN.out]; omega)
      obtain ⟨c0, c1, c2⟩ := hc k (by rw [← HN.out]; exact hlt)
      clear hc
      subst hab
      rw [← hbel.cell (p := ⟨b, off + k * 3, none⟩) hbw] at c0
      rw [← hbel.cell (p := ⟨b, off + k * 3 + 1, none⟩) hbw] at c1
      rw [← hbel.cell (p := ⟨b, off + k * 3 + 2, none⟩) hbw] at c2
      have hS : (vAt L k).S.size ≤ maxLen := by rw [vAt_in (by rw [← HN.out]; exact hlt)]; exact HS.out _ (List.getElem_mem _)
      go_wp2_with fail
      refine (specValOk_any _ _ _ _ hS).mono ?_
      rintro e w2 ⟨rfl, g2⟩
      have hbel2 : Below w.heap.size w w2 := hbel.trans ((below_gn g2).mono hbel.size)
      clear g2 hS c0 c1 c2 hbel
      cases hv : valB (vAt L k).K (vAt L k).N (vAt L k).S
      · have HV := hide (all_no (by rw [← HN.out]; exact hlt) hv)
        clear hv
        go_wp2
        go_ret
        exact ⟨ret_bool (by rw [HV.out]; rfl), hbel2⟩
      · have HV := hide hv
        clear hv
        go_wp2
        go_roundw
        case rel => exact ⟨k + 1, by omega, by go_num, fun j hj => by
            by_cases hjk : j = k
            · rw [hjk]; exact HV.out
            · exact HA.out j (by omega), hbel2⟩
        case measure => simp [intOf]; omega
    · have HV : Hid (L.all V3.ok = true) := all_yes (fun j hj => HA.out j (by rw [← HN.out] at hj; omega))
      have HD : Hid (decide ((n : Int) ≤ 5) = decide (n ≤ 5)) := by unfold Hid; exact decide_eq_decide.2 (by omega)
      go_wp2
      go_ret
      exact ⟨ret_bool (by rw [HV.out, Bool.true_and]; exact HD.out), hbel⟩

set_option maxHeartbeats 1600000 in
theorem specFactOk_any (kd : ByteArray) (a : Option Addr) (cap : Nat) (L : List V3) (w : World) (hkd : kd.size ≤ maxLen) (hr : RdV w a L) (hs : ∀ v ∈ L, v.S.size ≤ maxLen) (hm : L.length ≤ 1048580) :
    Calls Tryd.prog 31 #[.agg #[.string kd, .slice a L.length cap]] w fun e w' =>
      e = .returned (.bool (factB kd L)) ∧ Below w.heap.size w w' := by
  have HF : Hid (factB kd L = (nameB kd && (L.all V3.ok && decide (L.length ≤ 5)))) := by unfold Hid factB; rw [Bool.and_assoc, Bool.and_comm (decide _)]
  have b0 := below_al w (.cells #[.string kd, .slice a L.length cap] 41)
  cases hn : nameB kd
  · rw [hn] at HF
    go_enter Tryd.func31, Tryd.ntmps31
    go_wp2_with (go_at_call 57; refine (specNameOk_any _ _ hkd).mono ?_; rintro e w' ⟨rfl, rfl⟩)
    go_ret
    exact ⟨ret_bool HF.out.symm, b0⟩
  · rw [hn] at HF
    go_enter Tryd.func31, Tryd.ntmps31
    go_wp2_with fail
    refine (specNameOk_any _ _ hkd).mono ?_
    rintro e w' ⟨rfl, rfl⟩
    go_wp2_with fail
    refine (l3Vals_any a cap L _ (hr.below b0) hs hm).mono ?_
    rintro e w1 ⟨rfl, hb⟩
    have hB : Below w.heap.size w w1 := b0.trans (hb.mono b0.size)
    generalize (L.all V3.ok && decide (L.length ≤ 5)) = r at HF ⊢
    go_wp2
    go_ret
    exact ⟨ret_bool (by rw [HF.out]; rfl), hB⟩

set_option maxHeartbeats 1600000 in
theorem listV_any (a : Option Addr) (cap : Nat) (L : List V3) (w : World) (hr : RdV w a L) (hs : ∀ v ∈ L, v.S.size ≤ maxLen) (hm : L.length ≤ 1048580) :
    Calls Tryd.prog 84 #[.slice a L.length cap, .int .i64 0, .int .i64 5, .func (.func 67) #[] #[]] w fun e w' =>
      e = .returned (.bool (decide (L.length ≤ 5) && L.all V3.ok)) ∧ Below w.heap.size w w' := by
  obtain ⟨n, hN⟩ : ∃ n, n = L.length := ⟨_, rfl⟩
  rw [← hN] at hm ⊢
  have HN := hide hN
  have HS := hide hs
  clear hN hs
  by_cases h5 : n ≤ 5
  · have HF : Hid ((decide (n ≤ 5) && L.all V3.ok) = L.all V3.ok) := by unfold Hid; rw [decide_eq_true h5]; rfl
    go_enter Tryd.func84, Tryd.ntmps84
    go_wp2
    go_loopw [23] (fun i wr => ∃ (k : Nat), k ≤ n ∧ i = .int .i64 k ∧ (∀ j, j < k → valB (vAt L j).K (vAt L j).N (vAt L j).S = true) ∧ Below w.heap.size w wr) (fun i _ => n - (intOf i).toNat)
    case atStart => exact ⟨0, Nat.zero_le _, rfl, fun j hj => absurd hj (Nat.not_lt_zero _), Below.refl _ _⟩
    case round =>
      obtain ⟨k, hk, rfl, hall, hbel⟩ := hrel
      have HA := hide hall
      clear hall
      by_cases hlt : k < n
      · obtain ⟨b, off, hab, hbw, hc⟩ := hr.open (by rw [← HN.out]; omega)
        obtain ⟨c0, c1, c2⟩ := hc k (by rw [← HN.out]; exact hlt)
        clear hc
        subst hab
        rw [← hbel.cell (p := ⟨b, off + k * 3, none⟩) hbw] at c0
        rw [← hbel.cell (p := ⟨b, off + k * 3 + 1, none⟩) hbw] at c1
        rw [← hbel.cell (p := ⟨b, off + k * 3 + 2, none⟩) hbw] at c2
        have hS : (vAt L k).S.size ≤ maxLen := by rw [vAt_in (by rw [← HN.out]; exact hlt)]; exact HS.out _ (List.getElem_mem _)
        have hbel1 := hbel.alloc hbel.size (.cells #[.int .i64 (vAt L k).K, .int .i64 (vAt L k).N, .string (vAt L k).S] 85)
        go_wp2_with fail
        refine (implValOk_any _ _ _ _ hS).mono ?_
        rintro e w2 ⟨rfl, hb2⟩
        have hbel2 : Below w.heap.size w w2 := hbel1.trans (hb2.mono hbel1.size)
        clear hb2 hS c0 c1 c2 hbel hbel1
        cases hv : valB (vAt L k).K (vAt L k).N (vAt L k).S
        · have HV := hide (all_no (by rw [← HN.out]; exact hlt) hv)
          clear hv
          go_wp2
          go_ret
          exact ⟨ret_bool (by rw [HF.out, HV.out]), hbel2⟩
        · have HV := hide hv
          clear hv
          go_wp2
          go_roundw
          case rel => exact ⟨k + 1, by omega, by go_num, fun j hj => by
              by_cases hjk : j = k
              · rw [hjk]; exact HV.out
              · exact HA.out j (by omega), hbel2⟩
          case measure => simp [intOf]; omega
      · have HV : Hid (L.all V3.ok = true) := all_yes (fun j hj => HA.out j (by rw [← HN.out] at hj; omega))
        go_wp2
        go_ret
        exact ⟨ret_bool (by rw [HF.out, HV.out]), hbel⟩
  · have HF : Hid ((decide (n ≤ 5) && L.all V3.ok) = false) := by unfold Hid; rw [decide_eq_false h5]; rfl
    have hn : (5 : Int) < (n : Int) := by omega
    go_enter Tryd.func84, Tryd.ntmps84
    go_wp2
    go_ret
    exact ⟨ret_bool HF.out.symm, Below.refl _ _⟩

set_option maxHeartbeats 1600000 in
theorem namedV_any (kd : ByteArray) (a : Option Addr) (cap : Nat) (L : List V3) (w : World) (hkd : kd.size ≤ maxLen) (hr : RdV w a L) (hs : ∀ v ∈ L, v.S.size ≤ maxLen) (hm : L.length ≤ 1048580) :
    Calls Tryd.prog 66 #[.string kd, .slice a L.length cap, .func (.func 67) #[] #[]] w fun e w' =>
      e = .returned (.bool (factB kd L)) ∧ Below w.heap.size w w' := by
  have HF : Hid (factB kd L = (nameB kd && (decide (L.length ≤ 5) && L.all V3.ok))) := by unfold Hid factB; rw [Bool.and_assoc]
  cases hn : nameB kd
  · rw [hn] at HF
    go_enter Tryd.func66, Tryd.ntmps66
    go_wp2_with (go_at_call 83; refine (implNameOk_any _ _ hkd).mono ?_; rintro e w' ⟨rfl, rfl⟩)
    go_ret
    exact ⟨ret_bool HF.out.symm, Below.refl _ _⟩
  · rw [hn] at HF
    go_enter Tryd.func66, Tryd.ntmps66
    go_wp2_with fail
    refine (implNameOk_any _ _ hkd).mono ?_
    rintro e w' ⟨rfl, rfl⟩
    go_wp2_with fail
    refine (listV_any a cap L _ hr hs hm).mono ?_
    rintro e w1 ⟨rfl, hb⟩
    generalize (decide (L.length ≤ 5) && L.all V3.ok) = r at HF ⊢
    go_wp2
    go_ret
    exact ⟨ret_bool (by rw [HF.out]; rfl), hb⟩

set_option maxHeartbeats 1600000 in
theorem implFactOk_any (kd : ByteArray) (a : Option Addr) (cap : Nat) (L : List V3) (w : World) (hkd : kd.size ≤ maxLen) (hr : RdV w a L) (hs : ∀ v ∈ L, v.S.size ≤ maxLen) (hm : L.length ≤ 1048580) :
    Calls Tryd.prog 41 #[.agg #[.string kd, .slice a L.length cap]] w fun e w' =>
      e = .returned (.bool (factB kd L)) ∧ Below w.heap.size w w' := by
  have b0 := below_al w (.cells #[.string kd, .slice a L.length cap] 41)
  go_enter Tryd.func41, Tryd.ntmps41
  go_wp2_with fail
  refine (namedV_any kd a cap L _ hkd (hr.below b0) hs hm).mono ?_
  rintro e w1 ⟨rfl, hb⟩
  have hB : Below w.heap.size w w1 := b0.trans (hb.mono b0.size)
  go_wp2
  go_ret
  exact ⟨rfl, hB⟩
end Go.Proofs.YtaflokfgbmlmaadDoor
/-
  Plainly: when a store is right.
-/
namespace Go.Proofs.YtaflokfgbmlmaadDoor
open Go.RowKit
set_option linter.unusedVariables false

def prevId (J : List It) (k : Nat) : Int := if k = 0 then 0 else (iAt J (k - 1)).id
def okAt (J : List It) (nx : Int) (k : Nat) : Prop := prevId J k < (iAt J k).id ∧ (iAt J k).id < nx ∧ factB (iAt J k).kd (iAt J k).L = true
def Dist (J : List It) : Prop := ∀ i j, i < j → j < J.length → (iAt J i).same (iAt J j).kd (iAt J j).L = false
def Right (nx : Int) (J : List It) : Prop := (1 ≤ nx ∧ nx ≤ 1000000 ∧ J.length ≤ 40) ∧ (∀ k, k < J.length → okAt J nx k) ∧ Dist J
noncomputable def storeB (nx : Int) (J : List It) : Bool := @decide (Right nx J) (Classical.propDecidable _)
theorem storeB_yes {nx : Int} {J : List It} (h : Right nx J) : storeB nx J = true := by unfold storeB; simp [h]
theorem storeB_no {nx : Int} {J : List It} (h : ¬ Right nx J) : storeB nx J = false := by unfold storeB; simp [h]
theorem storeB_iff {nx : Int} {J : List It} : storeB nx J = true ↔ Right nx J := by unfold storeB; simp
theorem right_pl {nx : Int} {J K : List It} (h : J.map It.pl = K.map It.pl) (hr : Right nx J) : Right nx K := by
  have hl := pl_len h
  have at' : ∀ i, i < K.length → (iAt J i).id = (iAt K i).id ∧ (iAt J i).kd = (iAt K i).kd ∧ (iAt J i).L = (iAt K i).L := fun i hi => pl_at h (by omega)
  refine ⟨by rw [← hl]; exact hr.1, fun k hk => ?_, fun i j hij hj => ?_⟩
  · obtain ⟨h1, h2, h3⟩ := hr.2.1 k (by omega)
    obtain ⟨e1, e2, e3⟩ := at' k hk
    have ep : prevId J k = prevId K k := by
      unfold prevId; split
      · rfl
      · exact (at' (k - 1) (by omega)).1
    exact ⟨by rw [← ep, ← e1]; exact h1, by rw [← e1]; exact h2, by rw [← e2, ← e3]; exact h3⟩
  · have := hr.2.2 i j hij (by omega)
    obtain ⟨e1, e2, e3⟩ := at' i (by omega)
    obtain ⟨f1, f2, f3⟩ := at' j hj
    unfold It.same at *
    rw [← e2, ← e3, ← f2, ← f3]; exact this
theorem storeB_pl {nx : Int} {J K : List It} (h : J.map It.pl = K.map It.pl) : storeB nx J = storeB nx K := by
  rw [Bool.eq_iff_iff, storeB_iff, storeB_iff]
  exact ⟨right_pl h, right_pl h.symm⟩
theorem same_self (x : It) : x.same x.kd x.L = true := by simp [It.same, sameF]
/-- in what is right each fact is found at its own item -/
theorem idP_own {J : List It} (hd : Dist J) {k : Nat} (hk : k < J.length) : idP (J.map It.pl) (iAt J k).kd (iAt J k).L = (iAt J k).id :=
  idP_hit hk (fun j hj => hd j k hj hk) (same_self _)
/-- the Ids ascend -/
theorem ids_up {J : List It} {nx : Int} {n : Nat} (hn : n ≤ J.length) (h : ∀ k, k < n → okAt J nx k) : (∀ k, k < n → 1 ≤ (iAt J k).id) ∧ ∀ i j, i < j → j < n → (iAt J i).id < (iAt J j).id := by
  have step : ∀ k, k + 1 < n → (iAt J k).id < (iAt J (k + 1)).id := fun k hk => by
    have := (h (k + 1) hk).1
    unfold prevId at this
    rw [if_neg (by omega)] at this
    exact this
  refine ⟨fun k => ?_, fun i j hij => ?_⟩
  · induction k with
    | zero => intro hk; have := (h 0 hk).1; unfold prevId at this; rw [if_pos rfl] at this; omega
    | succ k ih => intro hk; have := step k hk; have := ih (by omega); omega
  · induction j with
    | zero => omega
    | succ j ih =>
      intro hj
      have := step j hj
      by_cases e : i = j
      · rw [e]; exact this
      · have := ih (by omega) (by omega); omega
/-- where each fact is found at its own item no two are the same -/
theorem dist_of {J : List It} {nx : Int} (h : ∀ k, k < J.length → okAt J nx k) (hid : ∀ k, k < J.length → idP (J.map It.pl) (iAt J k).kd (iAt J k).L = (iAt J k).id) : Dist J := by
  intro i j hij hj
  cases hs : (iAt J i).same (iAt J j).kd (iAt J j).L
  · rfl
  · exfalso
    -- the first one that is the same
    have key : ∀ n, ∀ i, i ≤ n → i < j → (iAt J i).same (iAt J j).kd (iAt J j).L = true → ∃ m, m < j ∧ (iAt J m).same (iAt J j).kd (iAt J j).L = true ∧ ∀ q, q < m → (iAt J q).same (iAt J j).kd (iAt J j).L = false := by
      intro n
      induction n with
      | zero => intro i hi hij hs; exact ⟨i, hij, hs, fun q hq => by omega⟩
      | succ n ih =>
        intro i hi hij hs
        by_cases e : ∃ q, q < i ∧ (iAt J q).same (iAt J j).kd (iAt J j).L = true
        · obtain ⟨q, hq, hqs⟩ := e
          exact ih q (by omega) (by omega) hqs
        · exact ⟨i, hij, hs, fun q hq => by
            cases h : (iAt J q).same (iAt J j).kd (iAt J j).L
            · rfl
            · exact absurd ⟨q, hq, h⟩ e⟩
    obtain ⟨m, hm, hms, hmn⟩ := key i i (Nat.le_refl _) hij hs
    have e1 := idP_hit (J := J) (k := m) (by omega) hmn hms
    rw [hid j hj] at e1
    have := (ids_up (Nat.le_refl _) h).2 m j hm hj
    omega
theorem right_of {J : List It} {nx : Int} (h0 : 1 ≤ nx ∧ nx ≤ 1000000 ∧ J.length ≤ 40) (h : ∀ k, k < J.length → okAt J nx k) (hid : ∀ k, k < J.length → idP (J.map It.pl) (iAt J k).kd (iAt J k).L = (iAt J k).id) : storeB nx J = true :=
  storeB_yes ⟨h0, h, dist_of h hid⟩
theorem wrong_at {J : List It} {nx : Int} {k : Nat} (hk : k < J.length) (h : ¬ okAt J nx k) : storeB nx J = false := storeB_no (fun hr => h (hr.2.1 k hk))
theorem wrong_id {J : List It} {nx : Int} {k : Nat} (hk : k < J.length) (h : idP (J.map It.pl) (iAt J k).kd (iAt J k).L ≠ (iAt J k).id) : storeB nx J = false := storeB_no (fun hr => h (idP_own hr.2.2 hk))
end Go.Proofs.YtaflokfgbmlmaadDoor
