/-
  Texts of this claim joined into one: ValT, TxV, FactT, FactTS, Bytes, Bits, Num, Enc, TextR, Dec, EncT, EncV, ValR, Whole, ParseP, Atoi, Loose, ParseI, ParseS, Parse, ValsP, FactInj, FactTI, KeepS, ByText.
-/
import Derived.Test.YtlaoiagpoomldabDoorJoined1
import Derived.Test.YtlaoiagpoomldabDoorShelf
import Derived.Lib.AppendIntMem
import Derived.Lib.SmallJoins
import Derived.Lib.Join
import Derived.Deep.AppendLies
import Derived.Deep.RegionHeld3
import Derived.OpenShut
import Derived.BigQuiet
import Derived.Deep.QuietTactic
import Derived.Laws.BitsAllLaws
import Derived.Laws.IdiomStrings
import Derived.Lib.AppendStr
import Derived.ProofKit
import Derived.Below
import Derived.Lib.SlicesS
import Derived.OwnWalk
import Derived.Maps.OwnSet
import Derived.StringKeys
import Derived.Deep.RegionWith
/-
  What the texts of values are, the tested one and the model's alike: textV of the value; nothing that was there has turned. (The tested one reads the library's table of powers of ten.)
-/
namespace Go.Proofs.YtlaoiagpoomldabDoor
open Go.RowKit
set_option linter.unusedVariables false

def textV (K N : Int) (S : ByteArray) : ByteArray :=
  if valB K N S then (if K = 1 then ⟨(Lib.itoa N).toArray⟩ else ⟨#[39]⟩ ++ S ++ ⟨#[39]⟩) else ⟨#[]⟩
theorem textV_num {N : Int} {S : ByteArray} (h : valB 1 N S = true) : textV 1 N S = ⟨(Lib.itoa N).toArray⟩ := by simp [textV, h]
theorem textV_text {K N : Int} {S : ByteArray} (h : valB K N S = true) (hk : K ≠ 1) : textV K N S = ⟨#[39]⟩ ++ S ++ ⟨#[39]⟩ := by simp [textV, h, hk]
theorem textV_no {K N : Int} {S : ByteArray} (h : valB K N S = false) : textV K N S = ⟨#[]⟩ := by simp [textV, h]
theorem ta_num_num (n : Int) (w : World) : (Instr.typeAssert (.iface 166 (.int .i64 n)) 143 166 true).run Tryd.prog w = .ok (.tuple #[.int .i64 n, .bool true]) w := by kernel_rfl
theorem ta_nil_num (w : World) : (Instr.typeAssert .nilIface 143 166 true).run Tryd.prog w = .ok (.tuple #[.int .i64 0, .bool false]) w := by kernel_rfl
theorem ta_text_num (s : ByteArray) (w : World) : (Instr.typeAssert (.iface 167 (.string s)) 143 166 true).run Tryd.prog w = .ok (.tuple #[.int .i64 0, .bool false]) w := by kernel_rfl
theorem ta_nil_text (w : World) : (Instr.typeAssert .nilIface 143 167 true).run Tryd.prog w = .ok (.tuple #[.string ⟨#[]⟩, .bool false]) w := by kernel_rfl
theorem ta_text_text (s : ByteArray) (w : World) : (Instr.typeAssert (.iface 167 (.string s)) 143 167 true).run Tryd.prog w = .ok (.tuple #[.string s, .bool true]) w := by kernel_rfl

theorem valB_texts {K N : Int} {S : ByteArray} (h : valB K N S = true) (hk : K ≠ 1) : S.size ≤ 20 := by
  by_cases h2 : K = 2
  · subst h2
    rw [valB_text] at h
    exact textB_le (by simp at h; exact h.1)
  · rw [valB_none N S hk h2] at h; cases h

set_option maxHeartbeats 1600000 in
theorem textOfSpoken_any (K N : Int) (S : ByteArray) (w : World) (ht : Tab w) :
    Calls Tryd.prog 136 #[spokV K N S] w fun e w' => e = .returned (.string (textV K N S)) ∧ Below w.heap.size w w' := by
  have t1 := ta_num_num
  have t2 := ta_nil_num
  have t3 := ta_text_num
  have t4 := ta_nil_text
  have t5 := ta_text_text
  cases hv : valB K N S
  · rw [spokV_no hv, textV_no hv]
    go_enter Tryd.func136, Tryd.ntmps136
    go_wp2
    go_ret
    exact ⟨rfl, Below.refl _ _⟩
  · by_cases hK : K = 1
    · subst hK
      have hr := hide (show -1000000000 ≤ N ∧ N ≤ 1000000000 by
        by_cases hr : -1000000000 ≤ N ∧ N ≤ 1000000000
        · exact hr
        · rw [valB_out S hr] at hv; cases hv)
      rw [spokV_one hv, textV_num hv]
      have HTab := hide ht
      clear ht hv
      go_enter Tryd.func136, Tryd.ntmps136
      go_wp2_with fail
      refine (Tryd.strconv_Itoa N (by have := hr.out; omega) (by have := hr.out; omega) _ HTab.out).mono ?_
      rintro e w1 ⟨rfl, k, os, rfl⟩
      have hb := Lib.below_grow w.heap.size w (Nat.le_refl _) k os
      generalize Sort.grow (w.drewN k) os = w1 at hb ⊢
      generalize hT : (⟨(Lib.itoa N).toArray⟩ : ByteArray) = s
      have HT := hide hT
      clear hT
      go_wp2
      go_ret
      exact ⟨by rw [HT.out]; rfl, hb⟩
    · have e : spokV K N S = .iface 167 (.string S) := by unfold spokV; rw [hv, if_pos rfl, if_neg hK]
      have hS := valB_texts hv hK
      have hc1 : (ByteArray.mk #[39]).size = 1 := rfl
      rw [e, textV_text hv hK]
      clear e hK hv
      go_enter Tryd.func136, Tryd.ntmps136
      go_wp2
      go_ret
      exact ⟨rfl, Below.refl _ _⟩

set_option maxHeartbeats 1600000 in
theorem implValText_any (K N : Int) (S : ByteArray) (w : World) (hs : S.size ≤ maxLen) (ht : Tab w) :
    Calls Tryd.prog 95 #[.agg #[.int .i64 K, .int .i64 N, .string S]] w fun e w' => e = .returned (.string (textV K N S)) ∧ Below w.heap.size w w' := by
  have HTab := hide ht
  clear ht
  go_enter Tryd.func95, Tryd.ntmps95
  go_wp2_with fail
  refine (spokenOf_any K N S _ hs).mono ?_
  rintro e w1 ⟨rfl, hb⟩
  have hb1 : Below w.heap.size w w1 := ((Below.refl w.heap.size w).alloc (Nat.le_refl _) _).trans (hb.mono (by simp))
  clear hb
  go_wp2_with fail
  refine (textOfSpoken_any K N S w1 (HTab.out.later hb1 (Nat.le_refl _))).mono ?_
  rintro e w2 ⟨rfl, hb2⟩
  have hb3 : Below w.heap.size w w2 := hb1.trans (hb2.mono hb1.size)
  clear hb2
  generalize hT : textV K N S = s
  have HT := hide hT
  clear hT
  go_wp2
  go_ret
  exact ⟨by rw [HT.out]; rfl, hb3⟩

set_option maxHeartbeats 1600000 in
theorem l2Text_any (K N : Int) (S : ByteArray) (w : World) (hv : valB K N S = true) :
    Calls Tryd.prog 89 #[.agg #[.int .i64 K, .int .i64 N, .string S]] w fun e w' => e = .returned (.string (textV K N S)) ∧ Below w.heap.size w w' := by
  by_cases hK : K = 1
  · subst hK
    have hr : -1000000000 ≤ N ∧ N ≤ 1000000000 := by
      by_cases hr : -1000000000 ≤ N ∧ N ≤ 1000000000
      · exact hr
      · rw [valB_out S hr] at hv; cases hv
    obtain ⟨hr1, hr2⟩ := hr
    have HV := hide (textV_num hv)
    clear hv
    go_enter Tryd.func89, Tryd.ntmps89
    go_wp2_with fail
    refine (l2Num_any N _ hr1 hr2).mono ?_
    rintro e w1 ⟨s, rfl, hs, HS, hb⟩
    have hb1 : Below w.heap.size w w1 := ((Below.refl w.heap.size w).alloc (Nat.le_refl _) _).trans (hb.mono (by simp))
    clear hb
    go_wp2
    go_ret
    exact ⟨by rw [HV.out, ← HS.out]; rfl, hb1⟩
  · have hS := valB_texts hv hK
    have HV := hide (textV_text hv hK)
    have hc1 : (ByteArray.mk #[39]).size = 1 := rfl
    have hk : (K == 1) = false := by simpa using hK
    clear hv hK
    go_enter Tryd.func89, Tryd.ntmps89
    go_wp2
    go_ret
    exact ⟨by rw [HV.out]; rfl, by go_grown⟩

end Go.Proofs.YtlaoiagpoomldabDoor
/-
  The text of a value that is right is short.
-/
namespace Go.Proofs.YtlaoiagpoomldabDoor
open Go.RowKit
set_option linter.unusedVariables false

def V3.tx (v : V3) : ByteArray := textV v.K v.N v.S
theorem tx_size {v : V3} (h : v.ok = true) : v.tx.size ≤ 22 := by
  obtain ⟨K, N, S⟩ := v
  have h' : valB K N S = true := h
  show (textV K N S).size ≤ 22
  by_cases hk : K = 1
  · subst hk
    have hN : -1000000000 ≤ N ∧ N ≤ 1000000000 := by
      by_cases hN : -1000000000 ≤ N ∧ N ≤ 1000000000
      · exact hN
      · rw [valB_out S hN] at h'; cases h'
    rw [textV_num h']
    show (Lib.itoa N).toArray.size ≤ 22
    simp only [List.size_toArray]
    by_cases hn : N < 0
    · rw [itoa_neg hn]; have := nDigits_10 N.natAbs (by omega); simp only [List.length_cons]; rw [Lib.decDigits_length]; omega
    · rw [itoa_pos hn]; have := nDigits_10 N.toNat (by omega); rw [Lib.decDigits_length]; omega
  · have hS := valB_texts h' hk
    rw [textV_text h' hk]
    have e1 : (⟨#[39]⟩ : ByteArray).size = 1 := rfl
    simp only [ByteArray.size_append, e1]; omega
end Go.Proofs.YtlaoiagpoomldabDoor
/-
  What the text of a fact is: its kind, and the texts of its values between brackets; the model's and the tested one alike.
-/
namespace Go.Proofs.YtlaoiagpoomldabDoor
open Go.RowKit
set_option linter.unusedVariables false

/-- the texts with commas between -/
def joinV (L : List V3) : List UInt8 := Lib.join (L.map fun v => v.tx.data.toList) [44]
theorem joinV_nil : joinV [] = [] := rfl
theorem joinV_snoc (L : List V3) (v : V3) : joinV (L ++ [v]) = if L = [] then v.tx.data.toList else joinV L ++ (44 :: v.tx.data.toList) := by
  unfold joinV Lib.join
  induction L with
  | nil => simp [List.intercalate]
  | cons a r ih =>
    rw [if_neg (by simp)]
    cases r with
    | nil => simp [List.intercalate]
    | cons b s =>
      rw [if_neg (by simp)] at ih
      simp only [List.map_append, List.map_cons, List.map_nil, List.cons_append] at ih ⊢
      have e : ∀ (p q : List UInt8) (t : List (List UInt8)), List.intercalate [44] (p :: q :: t) = p ++ (44 :: List.intercalate [44] (q :: t)) := fun p q t => by simp [List.intercalate, List.intersperse]
      rw [e, e, ih]
      simp
theorem joinV_take {L : List V3} (h : ∀ v ∈ L, v.ok = true) : ∀ k, k ≤ L.length → (joinV (L.take k)).length ≤ 23 * k
  | 0, _ => by simp [joinV_nil]
  | k + 1, hk => by
    have ih := joinV_take h k (by omega)
    have h2 := tx_size (h L[k] (List.getElem_mem (by omega)))
    have e : L[k].tx.data.toList.length = L[k].tx.size := by rw [Array.length_toList]; rfl
    rw [List.take_succ_eq_append_getElem (by omega), joinV_snoc]
    split
    · omega
    · simp only [List.length_append, List.length_cons]; omega
def factT (kd : ByteArray) (L : List V3) : ByteArray := if factB kd L then kd ++ (⟨#[40]⟩ ++ ⟨(joinV L).toArray⟩ ++ ⟨#[41]⟩) else ⟨#[]⟩

theorem ok_at {L : List V3} (h : ∀ v ∈ L, v.ok = true) {k : Nat} (hk : k < L.length) : (vAt L k).ok = true := by rw [vAt_in hk]; exact h _ (List.getElem_mem hk)

end Go.Proofs.YtlaoiagpoomldabDoor
/-
  What the model answers for a fact's text: factT.
-/
namespace Go.Proofs.YtlaoiagpoomldabDoor
open Go.RowKit
set_option linter.unusedVariables false

theorem factT_no {kd : ByteArray} {L : List V3} (h : factB kd L = false) : factT kd L = ⟨#[]⟩ := by unfold factT; rw [if_neg (by rw [h]; simp)]
theorem factT_yes {kd : ByteArray} {L : List V3} (h : factB kd L = true) : factT kd L = kd ++ (⟨#[40]⟩ ++ ⟨(joinV L).toArray⟩ ++ ⟨#[41]⟩) := by unfold factT; rw [if_pos h]
theorem factB_open {kd : ByteArray} {L : List V3} (h : factB kd L = true) : nameB kd = true ∧ L.length ≤ 5 ∧ ∀ v ∈ L, v.ok = true := by
  unfold factB at h
  simp only [Bool.and_eq_true, decide_eq_true_eq, List.all_eq_true] at h
  exact ⟨h.1.1, h.1.2, h.2⟩
theorem joinV_le {L : List V3} (h : ∀ v ∈ L, v.ok = true) : (joinV L).length ≤ 23 * L.length := by
  have := joinV_take h L.length (Nat.le_refl _)
  rwa [List.take_length] at this
theorem name_size {s : ByteArray} (h : nameB s = true) : s.size ≤ 12 := by
  unfold nameB inB at h
  simp only [Bool.and_eq_true, decide_eq_true_eq] at h
  omega
theorem keepT {w0 W w' : World} {B : Nat} {p0 p1 : Addr} {v0 v1 : Value} {a : Option Addr} {L : List V3} (hb : Below W.heap.size W w')
    (h : W.cell? p0 = some v0 ∧ W.cell? p1 = some v1 ∧ RdV W a L ∧ Below B w0 W ∧ B ≤ W.heap.size) :
    w'.cell? p0 = some v0 ∧ w'.cell? p1 = some v1 ∧ RdV w' a L ∧ Below B w0 w' ∧ B ≤ w'.heap.size := by
  obtain ⟨h0, h1, h2, h3, h4⟩ := h
  have k : ∀ {a : Addr} {v : Value}, W.cell? a = some v → w'.cell? a = some v := fun {a v} h => by rw [hb.cell (World.block_lt_of_cell? W _ h)]; exact h
  exact ⟨k h0, k h1, h2.below hb, h3.trans (hb.mono h4), Nat.le_trans h4 hb.size⟩
theorem rdT {w0 W : World} {B : Nat} {p0 p1 : Addr} {v0 v1 : Value} {a : Option Addr} {L : List V3}
    (h : W.cell? p0 = some v0 ∧ W.cell? p1 = some v1 ∧ RdV W a L ∧ Below B w0 W ∧ B ≤ W.heap.size) : RdV W a L := h.2.2.1

end Go.Proofs.YtlaoiagpoomldabDoor
/-
  Rows of bytes: what a slice of bytes reads as (Rd), what a call's own row holds (vals), and the contracts of the laws' own helpers on them: toByteS copies, eqByteS tells whether two are the same.
-/
namespace Go.Proofs.YtlaoiagpoomldabDoor
open Go.RowKit
set_option linter.unusedVariables false

theorem Tryd.info5 : (Tryd.prog.info? 5).map (fun i => (i.zero, i.size, i.bytes)) = some (some (.int .u8 0), 1, 1) := by kernel_rfl

/-- the i-th byte as a number -/
def byteAt (bs : List UInt8) (i : Nat) : Int := ((bs.getD i 0).toNat : Int)
theorem byteAt_lo (bs : List UInt8) (i : Nat) : 0 ≤ byteAt bs i := by unfold byteAt; omega
theorem byteAt_hi (bs : List UInt8) (i : Nat) : byteAt bs i ≤ 255 := by
  unfold byteAt; have := (bs.getD i 0).toNat_lt; omega

def vals (bs : List UInt8) : List Value := bs.map (fun b => Value.int .u8 (b.toNat : Int))
theorem vals_length (bs : List UInt8) : (vals bs).length = bs.length := by simp [vals]
theorem vals_get {bs : List UInt8} {i : Nat} (h : i < bs.length) : (vals bs)[i]? = some (.int .u8 (byteAt bs i)) := by
  unfold vals byteAt
  rw [List.getElem?_map, List.getElem?_eq_getElem h]
  simp [List.getD, h]
theorem vals_append (a b : List UInt8) : vals (a ++ b) = vals a ++ vals b := by simp [vals]

/-- what the slice at 'a' reads as -/
def Rd (w : World) (a : Option Addr) (bs : List UInt8) : Prop :=
  ∀ i, i < bs.length → ∃ b off, a = some ⟨b, off, none⟩ ∧ w.cell? ⟨b, off + i, none⟩ = some (.int .u8 (byteAt bs i))

theorem Rd.open {w : World} {a : Option Addr} {bs : List UInt8} (h : Rd w a bs) (hp : 0 < bs.length) :
    ∃ b off, a = some ⟨b, off, none⟩ ∧ b < w.heap.size ∧ ∀ i, i < bs.length → w.cell? ⟨b, off + i, none⟩ = some (.int .u8 (byteAt bs i)) := by
  obtain ⟨b, off, rfl, h0⟩ := h 0 hp
  refine ⟨b, off, rfl, World.block_lt_of_cell? w _ h0, fun i hi => ?_⟩
  obtain ⟨b2, off2, e, h1⟩ := h i hi
  simp only [Option.some.injEq, Addr.mk.injEq] at e
  rw [e.1, e.2.1]; exact h1

theorem Rd.below {w w' : World} {a : Option Addr} {bs : List UInt8} (h : Rd w a bs) (hb : Below w.heap.size w w') : Rd w' a bs := by
  intro i hi
  obtain ⟨b, off, e, hc⟩ := h i hi
  exact ⟨b, off, e, by rw [hb.cell (p := ⟨b, off + i, none⟩) (World.block_lt_of_cell? w _ hc)]; exact hc⟩

theorem Rd.heap {w w' : World} {a : Option Addr} {bs : List UInt8} (h : Rd w a bs) (hb : w'.heap = w.heap) : Rd w' a bs := by
  intro i hi
  obtain ⟨b, off, e, hc⟩ := h i hi
  exact ⟨b, off, e, by rw [← hc]; simp [World.cell?, hb]⟩

/-- what a call's own row of bytes reads as -/
theorem rd_owns {w : World} {base n : Nat} {v : Value} {bs : List UInt8} (h : w.ownsRow base 5 1 v n (vals bs)) :
    ∃ a cap, v = .slice a bs.length cap ∧ Rd w a bs ∧ n = bs.length := by
  have hn : n = bs.length := by have := h.1; rw [vals_length] at this; omega
  subst hn
  rcases h.2 with ⟨rfl, h0⟩ | ⟨g, cap, cur, rfl, hb, hg, hnc, hcm, hsz, htake⟩
  · exact ⟨none, 0, by rw [h0], fun i hi => by omega, rfl⟩
  · refine ⟨_, cap, rfl, fun i hi => ⟨g, 0, rfl, ?_⟩, rfl⟩
    have := h.cellAt i (by omega)
    rw [vals_get hi] at this
    rw [← this]; simp

/-- the row of bytes that came in -/
def IsRow (k : IntKind) (w : World) (a : Option Addr) (len cap : Nat) (zs : List Int) : Prop :=
  (a = none ∧ len = 0 ∧ cap = 0 ∧ zs = []) ∨
  ∃ x, a = some x ∧ len ≤ cap ∧ cap ≤ maxLen ∧ zs.length = cap ∧ (∀ i, i < zs.length → w.cell? (x.add i) = some (.int k (zs.getD i 0))) ∧ ∀ n ∈ zs, (Lit.int k n).wf = true

theorem isRow_len {k : IntKind} {w : World} {a : Option Addr} {len cap : Nat} {zs : List Int} (h : IsRow k w a len cap zs) : len ≤ maxLen := by
  rcases h with ⟨rfl, rfl, rfl, rfl⟩ | ⟨x, rfl, hl, hm, hz, hcell, hwz⟩
  · exact Nat.zero_le _
  · exact Nat.le_trans hl hm
theorem below_drewN (B : Nat) (w : World) (n : Nat) : Below B w (w.drewN n) := ⟨rfl, rfl, rfl, Nat.le_refl _, fun _ _ => rfl⟩

theorem rd_row {w : World} {a : Option Addr} {len cap : Nat} {zs : List Int} (h : IsRow .u8 w a len cap zs) :
    ∃ bs : List UInt8, bs.length = len ∧ Rd w a bs := by
  rcases h with ⟨rfl, rfl, rfl, rfl⟩ | ⟨x, rfl, hl, hm, hz, hcell, hwz⟩
  · exact ⟨[], rfl, fun i hi => by simp at hi⟩
  · refine ⟨(zs.take len).map (fun n => UInt8.ofNat n.toNat), by simp; omega, fun i hi => ?_⟩
    have hi2 : i < len := by simp at hi; omega
    obtain ⟨b, off, spot⟩ := x
    have hc := hcell i (by omega)
    have hs : spot = none := by
      have h0 := hcell 0 (by omega)
      simpa [Addr.add] using World.cell?_spot h0
    subst hs
    refine ⟨b, off, rfl, ?_⟩
    have e : (⟨b, off, none⟩ : Addr).add i = ⟨b, off + i, none⟩ := Addr.add_lit _ _ _
    rw [e] at hc
    rw [hc]
    have hiz : i < zs.length := by omega
    have hw := hwz zs[i] (List.getElem_mem hiz)
    have hb := bounds_u8 hw
    unfold byteAt
    simp [List.getD, hiz, hi2]
    omega

theorem rd_cells {w : World} {p : Addr} {bs : List UInt8} (hr : Rd w (some p) bs) : ∀ j u, (vals bs)[j]? = some u → w.cell? (p.add j) = some u := by
  intro j u hj
  have hl : j < bs.length := by have := (List.getElem?_eq_some_iff.1 hj).1; rw [vals_length] at this; exact this
  rw [vals_get hl] at hj
  obtain ⟨b, off, e, hc⟩ := hr j hl
  simp only [Option.some.injEq] at e
  subst e
  rw [Addr.add_lit, hc]; exact hj

/-- a row of the call's own, at hand for the readers -/
theorem rd_owns_cap {w : World} {base n : Nat} {v : Value} {bs : List UInt8} (h : w.ownsRow base 5 1 v n (vals bs)) :
    ∃ a cap, v = .slice a bs.length cap ∧ Rd w a bs ∧ bs.length ≤ cap ∧ (a = none → bs.length = 0 ∧ cap = 0) := by
  have hn : n = bs.length := by have := h.1; rw [vals_length] at this; omega
  subst hn
  obtain ⟨a, cap, e, hr, -⟩ := rd_owns h
  rcases h.2 with ⟨h1, h0⟩ | ⟨g, cap', cur, h1, hb, hg, hnc, hcm, hsz, htake⟩
  · rw [e] at h1
    simp only [Value.slice.injEq] at h1
    exact ⟨a, cap, e, hr, by omega, fun _ => ⟨h0, h1.2.2⟩⟩
  · rw [e] at h1
    simp only [Value.slice.injEq] at h1
    exact ⟨a, cap, e, hr, by omega, fun hh => by rw [h1.1] at hh; cases hh⟩

end Go.Proofs.YtlaoiagpoomldabDoor
/-
  Plain facts on bits of an int that is not below 0.
-/
namespace Go.Proofs.YtlaoiagpoomldabDoor
open Go.RowKit
set_option linter.unusedVariables false

theorem i64_xor_nat (a b : Nat) (ha : a < 9223372036854775808) (hb : b < 9223372036854775808) : bits .xor .i64 (a : Int) (b : Int) = ((a ^^^ b : Nat) : Int) := by
  have hx : a ^^^ b < 2 ^ 63 := Nat.xor_lt_two_pow (by omega) (by omega)
  show IntKind.i64.wrap ((BitVec.ofInt 64 (a : Int) ^^^ BitVec.ofInt 64 (b : Int)).toNat : Int) = _
  rw [BitVec.toNat_xor, ofInt_u64 a (by omega), ofInt_u64 b (by omega)]
  exact IntWalk.i64_in _ (by omega)
theorem i64_and_nat (a b : Nat) (ha : a < 9223372036854775808) (hb : b < 9223372036854775808) : bits .and .i64 (a : Int) (b : Int) = ((a &&& b : Nat) : Int) := by
  have hx : a &&& b < 2 ^ 63 := Nat.and_lt_two_pow _ (by omega)
  show IntKind.i64.wrap ((BitVec.ofInt 64 (a : Int) &&& BitVec.ofInt 64 (b : Int)).toNat : Int) = _
  rw [BitVec.toNat_and, ofInt_u64 a (by omega), ofInt_u64 b (by omega)]
  exact IntWalk.i64_in _ (by omega)
theorem i64_or_nat (a b : Nat) (ha : a < 9223372036854775808) (hb : b < 9223372036854775808) : bits .or .i64 (a : Int) (b : Int) = ((a ||| b : Nat) : Int) := by
  have hx : a ||| b < 2 ^ 63 := Nat.or_lt_two_pow (by omega) (by omega)
  show IntKind.i64.wrap ((BitVec.ofInt 64 (a : Int) ||| BitVec.ofInt 64 (b : Int)).toNat : Int) = _
  rw [BitVec.toNat_or, ofInt_u64 a (by omega), ofInt_u64 b (by omega)]
  exact IntWalk.i64_in _ (by omega)

theorem u8_and127 (c : Int) (h0 : 0 ≤ c) (h1 : c ≤ 255) : bits .and .u8 c 127 = c % 128 := by
  have := u8_and c 127 h0 (by omega) (by omega) (by omega)
  rw [this, show (127 : Int).toNat = 127 from rfl, nat_mask7]
  omega

/-- the sum's step on one bit -/
def cstep (x : Nat) : Nat := if x % 2 = 1 then (x / 2) ^^^ 2197175160 else x / 2
def cstepN : Nat → Nat → Nat
  | 0, x => x
  | k + 1, x => cstep (cstepN k x)
def cbyte (x c : Nat) : Nat := cstepN 8 (x ^^^ c)
theorem cstep_lt {x : Nat} (h : x < 4294967296) : cstep x < 4294967296 := by
  unfold cstep
  split
  · exact Nat.xor_lt_two_pow (n := 32) (by omega) (by omega)
  · omega
theorem cstepN_lt {x : Nat} (h : x < 4294967296) : ∀ k, cstepN k x < 4294967296
  | 0 => h
  | k + 1 => cstep_lt (cstepN_lt h k)
theorem cxor_lt {x c : Nat} (h : x < 4294967296) (hc : c < 4294967296) : x ^^^ c < 4294967296 := Nat.xor_lt_two_pow (n := 32) (by omega) (by omega)
theorem cbyte_lt {x c : Nat} (h : x < 4294967296) (hc : c < 256) : cbyte x c < 4294967296 := cstepN_lt (cxor_lt h (by omega)) 8
end Go.Proofs.YtlaoiagpoomldabDoor
/-
  Numbers in bytes, plainly: what GetNum reads (numR) and what PutNum writes (encN), and that they are inverse. No program is spoken of here.
-/
namespace Go.Proofs.YtlaoiagpoomldabDoor
open Go.RowKit
set_option linter.unusedVariables false

def accN (bs : List UInt8) (A : Nat) : Nat → Nat
  | 0 => 0
  | k + 1 => accN bs A k + (byteAt bs (A + k)).toNat % 128 * 128 ^ k
theorem accN_lt (bs : List UInt8) (A : Nat) : ∀ k, accN bs A k < 128 ^ k
  | 0 => by show 0 < 1; omega
  | k + 1 => by
    have h := accN_lt bs A k
    show accN bs A k + (byteAt bs (A + k)).toNat % 128 * 128 ^ k < 128 ^ (k + 1)
    have h2 : (byteAt bs (A + k)).toNat % 128 ≤ 127 := by omega
    have h3 := Nat.mul_le_mul_right (128 ^ k) h2
    rw [Nat.pow_succ]
    omega
/-- where the last group of a number stands: the first byte below 128, at most five bytes on -/
def scanN (bs : List UInt8) (A : Nat) : Nat → Nat → Option Nat
  | 0, _ => none
  | f + 1, k => if A + k < bs.length then (if byteAt bs (A + k) < 128 then some k else scanN bs A f (k + 1)) else none
def unfN (m : Nat) : Int := if m % 2 = 1 then -((m / 2 : Nat) : Int) - 1 else ((m / 2 : Nat) : Int)
/-- what GetNum answers -/
def numR (bs : List UInt8) (at' : Int) : Int × Int × Bool :=
  if at' < 0 then (0, 0, false)
  else match scanN bs at'.toNat 5 0 with
    | none => (0, 0, false)
    | some k => if (k ≠ 0 ∧ byteAt bs (at'.toNat + k) = 0) ∨ 2000000000 < accN bs at'.toNat (k + 1) then (0, 0, false)
      else (unfN (accN bs at'.toNat (k + 1)), at' + k + 1, true)

theorem scanN_out {bs : List UInt8} {A : Nat} (h : bs.length ≤ A) (f k : Nat) : scanN bs A f k = none := by
  cases f with
  | zero => rfl
  | succ f => unfold scanN; rw [if_neg (by omega)]
theorem or_acc {a x k : Nat} (ha : a < 128 ^ k) : a ||| (x * 128 ^ k) = a + x * 128 ^ k := by
  have e : (128 : Nat) ^ k = 2 ^ (7 * k) := by rw [Nat.pow_mul]
  rw [e] at ha ⊢
  rw [Nat.or_comm, Nat.add_comm]
  exact nat_join (7 * k) (x * 2 ^ (7 * k)) a (Nat.mul_mod_left _ _) ha
theorem pow128_le {k : Nat} (h : k ≤ 5) : 128 ^ k ≤ 34359738368 := by
  have : (128 : Nat) ^ k ≤ 128 ^ 5 := Nat.pow_le_pow_right (by omega) h
  exact this
theorem or_step {m k : Nat} {c : Int} (hm : m < 128 ^ k) (hk : k < 5) (h0 : 0 ≤ c) (h1 : c ≤ 255) :
    bits .or .i64 (m : Int) (wrap64 (c % 128 * 2 ^ (7 * k))) = ((m + c.toNat % 128 * 128 ^ k : Nat) : Int) := by
  obtain ⟨d, rfl⟩ := Int.eq_ofNat_of_zero_le h0
  have hp := pow128_le (k := k) (by omega)
  have e : ((d : Int) % 128 * 2 ^ (7 * k)) = ((d % 128 * 128 ^ k : Nat) : Int) := by
    have e2 : ((2 : Int) ^ (7 * k)) = ((128 ^ k : Nat) : Int) := by
      rw [show (128 : Nat) ^ k = 2 ^ (7 * k) by rw [Nat.pow_mul]]
      exact (Int.natCast_pow 2 (7 * k)).symm
    rw [e2, Int.natCast_mul]
    rfl
  have hb : d % 128 * 128 ^ k ≤ 127 * 34359738368 := Nat.mul_le_mul (by omega) hp
  rw [e, IntWalk.wrap64_in _ (by omega), i64_or_nat _ _ (by omega) (by omega), or_acc hm]
  simp
theorem scanN_end {bs : List UInt8} {A k : Nat} (h5 : k < 5) (h : ¬ A + k < bs.length) : scanN bs A (5 - k) k = none := by
  rw [show 5 - k = (4 - k) + 1 by omega]
  unfold scanN
  rw [if_neg h]
theorem scanN_last {bs : List UInt8} {A k : Nat} (h5 : k < 5) (h : A + k < bs.length) (hc : byteAt bs (A + k) < 128) : scanN bs A (5 - k) k = some k := by
  rw [show 5 - k = (4 - k) + 1 by omega]
  unfold scanN
  rw [if_pos h, if_pos hc]
theorem scanN_more {bs : List UInt8} {A k : Nat} (h5 : k < 5) (h : A + k < bs.length) (hc : ¬ byteAt bs (A + k) < 128) : scanN bs A (5 - k) k = scanN bs A (5 - (k + 1)) (k + 1) := by
  rw [show 5 - k = (5 - (k + 1)) + 1 by omega]
  rw [scanN, if_pos h, if_neg hc]
theorem scanN_ge {bs : List UInt8} {A : Nat} : ∀ f k r, scanN bs A f k = some r → k ≤ r ∧ r < k + f
  | 0, k, r, h => by simp [scanN] at h
  | f + 1, k, r, h => by
    unfold scanN at h
    split at h
    · split at h
      · simp at h; omega
      · have := scanN_ge f (k + 1) r h; omega
    · simp at h
theorem scanN_lt {bs : List UInt8} {A r : Nat} (h : scanN bs A 5 0 = some r) : r < 5 := by have := scanN_ge 5 0 r h; omega
theorem numR_none {bs : List UInt8} {A : Nat} (h : scanN bs A 5 0 = none) : numR bs (A : Int) = (0, 0, false) := by
  unfold numR
  rw [if_neg (by omega), Int.toNat_natCast, h]
theorem numR_some {bs : List UInt8} {A k : Nat} (h : scanN bs A 5 0 = some k) : numR bs (A : Int) = if (k ≠ 0 ∧ byteAt bs (A + k) = 0) ∨ 2000000000 < accN bs A (k + 1) then (0, 0, false) else (unfN (accN bs A (k + 1)), (A : Int) + k + 1, true) := by
  unfold numR
  rw [if_neg (by omega), Int.toNat_natCast, h]
theorem numR_neg {bs : List UInt8} {a : Int} (h : a < 0) : numR bs a = (0, 0, false) := by
  unfold numR
  rw [if_pos h]
theorem numR_past {bs : List UInt8} {a : Int} (h : (bs.length : Int) ≤ a) : numR bs a = (0, 0, false) := by
  obtain ⟨A, rfl⟩ := Int.eq_ofNat_of_zero_le (show 0 ≤ a by omega)
  exact numR_none (scanN_out (by omega) _ _)
theorem unfN_odd {m : Nat} (h : m % 2 = 1) : unfN m = -((m : Int) / 2) - 1 := by unfold unfN; rw [if_pos h]; omega
theorem unfN_even {m : Nat} (h : ¬ m % 2 = 1) : unfN m = (m : Int) / 2 := by unfold unfN; rw [if_neg h]; omega
theorem unfN_in (m : Nat) : inB (unfN m) (-1000000000) 1000000000 = !decide (2000000000 < m) := by
  by_cases h : m % 2 = 1
  · rw [unfN_odd h]
    by_cases h2 : 2000000000 < m
    · rw [inB_f (by omega)]; simp [h2]
    · rw [inB_t (by omega)]; simp [h2]
  · rw [unfN_even h]
    by_cases h2 : 2000000000 < m
    · rw [inB_f (by omega)]; simp [h2]
    · rw [inB_t (by omega)]; simp [h2]
theorem ret_num {bs : List UInt8} {A : Nat} {x y : Int} {z : Bool} (h : numR bs (A : Int) = (x, y, z)) :
    Ending.returned (.tuple #[.int .i64 x, .int .i64 y, .bool z]) = .returned (.tuple #[.int .i64 (numR bs (A : Int)).1, .int .i64 (numR bs (A : Int)).2.1, .bool (numR bs (A : Int)).2.2]) := by rw [h]

/-- what the groups at a place hold: the number as it was folded, the place behind, whether the form is the shortest -/
def grpR (bs : List UInt8) (A : Nat) : Int × Int × Bool :=
  match scanN bs A 5 0 with
  | none => (0, 0, false)
  | some k => (((accN bs A (k + 1) : Nat) : Int), (A : Int) + k + 1, k == 0 || byteAt bs (A + k) != 0)
theorem grpR_none {bs : List UInt8} {A : Nat} (h : scanN bs A 5 0 = none) : grpR bs A = (0, 0, false) := by unfold grpR; rw [h]
theorem grpR_some {bs : List UInt8} {A k : Nat} (h : scanN bs A 5 0 = some k) : grpR bs A = (((accN bs A (k + 1) : Nat) : Int), (A : Int) + k + 1, k == 0 || byteAt bs (A + k) != 0) := by unfold grpR; rw [h]
theorem ret_grp {bs : List UInt8} {A : Nat} {x y : Int} {z : Bool} (h : grpR bs A = (x, y, z)) :
    Ending.returned (.tuple #[.int .i64 x, .int .i64 y, .bool z]) = .returned (.tuple #[.int .i64 (grpR bs A).1, .int .i64 (grpR bs A).2.1, .bool (grpR bs A).2.2]) := by rw [h]
/-- the number out of its groups -/
theorem numR_grp (bs : List UInt8) (A : Nat) : ∃ M : Nat, M < 34359738368 ∧ (grpR bs A).1 = (M : Int) ∧
    numR bs (A : Int) = if (grpR bs A).2.2 = false ∨ 2000000000 < M then (0, 0, false) else (unfN M, (grpR bs A).2.1, true) := by
  cases h : scanN bs A 5 0 with
  | none => exact ⟨0, by omega, by rw [grpR_none h]; rfl, by rw [numR_none h, grpR_none h]; simp⟩
  | some k =>
    have hk : k < 5 := scanN_lt h
    have hlt := accN_lt bs A (k + 1)
    have hp := pow128_le (k := k + 1) (by omega)
    refine ⟨accN bs A (k + 1), by omega, by rw [grpR_some h], ?_⟩
    rw [numR_some h, grpR_some h]
    by_cases h1 : k = 0 <;> by_cases h2 : byteAt bs (A + k) = 0 <;> by_cases h3 : 2000000000 < accN bs A (k + 1) <;> simp [h1, h2, h3]

theorem scanN_some {bs : List UInt8} {A : Nat} : ∀ f k r, scanN bs A f k = some r → A + r < bs.length
  | 0, k, r, h => by simp [scanN] at h
  | f + 1, k, r, h => by
    unfold scanN at h
    split at h
    · split at h
      · simp at h; omega
      · exact scanN_some f (k + 1) r h
    · simp at h
/-- a number that was read lies within the bytes -/
theorem numR_true {bs : List UInt8} {x : Int} (h : (numR bs x).2.2 = true) : 0 ≤ x ∧ x < (numR bs x).2.1 ∧ (numR bs x).2.1 ≤ bs.length := by
  by_cases h0 : x < 0
  · rw [numR_neg h0] at h; cases h
  · obtain ⟨A, rfl⟩ := Int.eq_ofNat_of_zero_le (show 0 ≤ x by omega)
    cases hs : scanN bs A 5 0 with
    | none => rw [numR_none hs] at h; cases h
    | some k =>
      rw [numR_some hs] at h ⊢
      split at h
      · cases h
      · rename_i hc
        rw [if_neg hc]
        have := scanN_some 5 0 k hs
        simp only
        omega
end Go.Proofs.YtlaoiagpoomldabDoor
/-
  Numbers as bytes, plainly: what PutNum writes behind. No program is spoken of here.
-/
namespace Go.Proofs.YtlaoiagpoomldabDoor
open Go.RowKit
set_option linter.unusedVariables false

/-- the number as it is kept: no further out than the most either way -/
def clampN (n : Int) : Int := if n < -1000000000 then -1000000000 else if 1000000000 < n then 1000000000 else n
def foldN (n : Int) : Nat := if n < 0 then (-2 * n - 1).toNat else (2 * n).toNat
/-- its groups of seven bits, the lowest first -/
def encG : Nat → Nat → List UInt8
  | 0, m => [UInt8.ofNat m]
  | f + 1, m => if m < 128 then [UInt8.ofNat m] else UInt8.ofNat (m % 128 + 128) :: encG f (m / 128)
def encN (n : Int) : List UInt8 := encG 5 (foldN (clampN n))

theorem clampN_in (n : Int) : -1000000000 ≤ clampN n ∧ clampN n ≤ 1000000000 := by unfold clampN; split; omega; split <;> omega
theorem foldN_le {n : Int} (h : -1000000000 ≤ n ∧ n ≤ 1000000000) : foldN n ≤ 2000000000 := by unfold foldN; split <;> omega
theorem foldN_neg {n : Int} (h : n < 0) : ((foldN n : Nat) : Int) = -2 * n - 1 := by unfold foldN; rw [if_pos h]; omega
theorem foldN_pos {n : Int} (h : ¬ n < 0) : ((foldN n : Nat) : Int) = 2 * n := by unfold foldN; rw [if_neg h]; omega
theorem fold_cases (n : Int) : (1000000000 < n ∧ ((foldN (clampN n) : Nat) : Int) = 2000000000) ∨ (n < -1000000000 ∧ ((foldN (clampN n) : Nat) : Int) = 1999999999) ∨
    ((-1000000000 ≤ n ∧ n < 0) ∧ ((foldN (clampN n) : Nat) : Int) = -2 * n - 1) ∨ ((0 ≤ n ∧ n ≤ 1000000000) ∧ ((foldN (clampN n) : Nat) : Int) = 2 * n) := by
  unfold clampN
  split
  · rw [foldN_neg (by omega)]; omega
  · split
    · rw [foldN_pos (by omega)]; omega
    · by_cases h : n < 0
      · rw [foldN_neg h]; omega
      · rw [foldN_pos h]; omega
theorem encG_length : ∀ f m, (encG f m).length ≤ f + 1
  | 0, m => by simp [encG]
  | f + 1, m => by
    unfold encG
    split
    · simp
    · have := encG_length f (m / 128); simp; omega
theorem encN_length (n : Int) : (encN n).length ≤ 6 := encG_length 5 _
theorem encG_small {f m : Nat} (h : m < 128) : encG f m = [UInt8.ofNat m] := by
  cases f with
  | zero => rfl
  | succ f => unfold encG; rw [if_pos h]
theorem encG_big {f m : Nat} (h : ¬ m < 128) : encG (f + 1) m = UInt8.ofNat (m % 128 + 128) :: encG f (m / 128) := by
  rw [encG, if_neg h]
theorem enc_step {f m : Nat} (hb : ¬ m < 128) (hm : m < 128 ^ f) : ∃ g, f = g + 1 ∧ m / 128 < 128 ^ g ∧ encG f m = UInt8.ofNat (m % 128 + 128) :: encG g (m / 128) := by
  cases f with
  | zero => simp at hm; omega
  | succ g =>
    refine ⟨g, rfl, ?_, encG_big hb⟩
    rw [Nat.pow_succ] at hm
    exact Nat.div_lt_of_lt_mul (by omega)
theorem or128 (m : Nat) : bits .or .i64 ((m : Int) % 128) 128 = (m : Int) % 128 + 128 := by
  have h := i64_or_nat (m % 128) 128 (by omega) (by omega)
  have h2 : m % 128 ||| 128 = m % 128 + 128 := by
    rw [Nat.or_comm, Nat.add_comm]
    exact nat_join 7 128 (m % 128) (by decide) (by omega)
  rw [h2] at h
  have e : (((m % 128 : Nat) : Int)) = (m : Int) % 128 := by omega
  rw [e] at h
  rw [show ((m % 128 + 128 : Nat) : Int) = (m : Int) % 128 + 128 by omega] at h
  exact h
theorem vals_cont (m : Nat) : [Value.int .u8 ((m : Int) % 128 + 128)] = vals [UInt8.ofNat (m % 128 + 128)] := by
  simp [vals]; omega
theorem vals_last {m : Nat} (h : m < 128) : [Value.int .u8 (m : Int)] = vals [UInt8.ofNat m] := by
  simp [vals]; omega
theorem one_cell (v : Value) (w : World) (e : TypeId) : ∀ j u, [v][j]? = some u → (w.alloc (.cells #[v] e)).cell? ((⟨w.heap.size, 0, none⟩ : Addr).add j) = some u := by
  intro j u hj
  match j, hj with
  | 0, hj => simp at hj; subst hj; simp [Addr.add]
theorem vals_one (bs : List UInt8) : ∀ u ∈ vals bs, u.oneCell' = true := by
  intro u hu
  obtain ⟨_, _, rfl⟩ := List.mem_map.1 hu
  rfl
theorem pre_length {pre r : List UInt8} {n : Int} (h : pre ++ r = encN n) : pre.length ≤ 6 := by
  have := encN_length n; rw [← h] at this; simp at this; omega
theorem encG_pos : ∀ f m, 0 < (encG f m).length
  | 0, m => by simp [encG]
  | f + 1, m => by unfold encG; split <;> simp
theorem encN_pos (n : Int) : 0 < (encN n).length := encG_pos _ _
end Go.Proofs.YtlaoiagpoomldabDoor
/-
  Texts in bytes, plainly: what GetText reads. And a slice of bytes turned into a text.
-/
namespace Go.Proofs.YtlaoiagpoomldabDoor
open Go.RowKit
set_option linter.unusedVariables false

/-- what GetText answers -/
def textR (bs : List UInt8) (x : Int) : ByteArray × Int × Bool :=
  if (numR bs x).2.2 = false ∨ (numR bs x).1 < 0 ∨ (bs.length : Int) - (numR bs x).2.1 < (numR bs x).1 then (ByteArray.empty, 0, false)
  else (⟨((bs.drop (numR bs x).2.1.toNat).take (numR bs x).1.toNat).toArray⟩, (numR bs x).2.1 + (numR bs x).1, true)
theorem textR_no {bs : List UInt8} {x : Int} (h : (numR bs x).2.2 = false ∨ (numR bs x).1 < 0 ∨ (bs.length : Int) - (numR bs x).2.1 < (numR bs x).1) : textR bs x = (ByteArray.empty, 0, false) := by
  unfold textR; rw [if_pos h]
theorem textR_yes (bs : List UInt8) (x : Int) (P N : Nat) (h : ¬ ((numR bs x).2.2 = false ∨ (numR bs x).1 < 0 ∨ (bs.length : Int) - (numR bs x).2.1 < (numR bs x).1)) (hP : (numR bs x).2.1 = P) (hN : (numR bs x).1 = N) :
    textR bs x = (⟨((bs.drop P).take N).toArray⟩, (P : Int) + N, true) := by
  unfold textR; rw [if_neg h, hP, hN]; rfl
theorem ret_text {bs : List UInt8} {x : Int} {s : ByteArray} {y : Int} {z : Bool} (h : textR bs x = (s, y, z)) :
    Ending.returned (.tuple #[.string s, .int .i64 y, .bool z]) = .returned (.tuple #[.string (textR bs x).1, .int .i64 (textR bs x).2.1, .bool (textR bs x).2.2]) := by rw [h]

theorem conv_part {b off P N : Nat} {bs : List UInt8} {w : World} (h : P + N ≤ bs.length) (hc : ∀ i, i < bs.length → w.cell? ⟨b, off + i, none⟩ = some (.int .u8 (byteAt bs i))) (c' : Nat) :
    (convert 37 9 (.slice (some ⟨b, off + P, none⟩) N c')).run Tryd.prog w = .ok (.string ⟨((bs.drop P).take N).toArray⟩) w := by
  have hl : ((bs.drop P).take N).length = N := by simp; omega
  have := run_convert_bytes_back (P := Tryd.prog) w 37 9 5 ⟨b, off + P, none⟩ c' ((bs.drop P).take N) Tryd.underlying37 Tryd.underlying5 Tryd.underlying9 (fun j hj => by
    have hj2 : j < N := by omega
    rw [Addr.add_lit, Nat.add_assoc, hc (P + j) (by omega)]
    unfold byteAt
    simp [List.getD, show P + j < bs.length by omega])
  rw [hl] at this
  exact this

end Go.Proofs.YtlaoiagpoomldabDoor
/-
  Numbers and texts come back of their bytes, plainly: what numR and textR read behind what encN and encT write. No program is spoken of here.
-/
namespace Go.Proofs.YtlaoiagpoomldabDoor
open Go.RowKit
set_option linter.unusedVariables false

theorem encG_fit : ∀ f m g, m < 128 ^ (g + 1) → (encG f m).length ≤ g + 1
  | 0, m, g, h => by simp [encG]
  | f + 1, m, 0, h => by simp at h; rw [encG_small (by omega)]; simp
  | f + 1, m, g + 1, h => by
    by_cases hs : m < 128
    · rw [encG_small hs]; simp
    · rw [encG_big hs]
      have := encG_fit f (m / 128) g (by rw [Nat.pow_succ] at h; exact Nat.div_lt_of_lt_mul (by omega))
      simp; omega
theorem byteAt_ofNat {m : Nat} (h : m < 256) (r : List UInt8) : byteAt (UInt8.ofNat m :: r) 0 = (m : Int) := by
  unfold byteAt; simp [List.getD]; omega
theorem byteAt_cons (c : UInt8) (r : List UInt8) (i : Nat) : byteAt (c :: r) (i + 1) = byteAt r i := by
  unfold byteAt; simp [List.getD]
theorem byteAt_append (a b : List UInt8) (i : Nat) : byteAt (a ++ b) (a.length + i) = byteAt b i := by
  unfold byteAt; simp [List.getD, List.getElem?_append_right]

/-- the groups of m stand at A + k: the scan finds their last one, they add up to m, and their last one is 0 only where m is -/
theorem scan_enc (L : List UInt8) (A : Nat) : ∀ f m k F, m < 128 ^ (f + 1) → (encG f m).length ≤ F →
    (∀ j, j < (encG f m).length → byteAt L (A + k + j) = byteAt (encG f m) j) → A + k + (encG f m).length ≤ L.length →
    scanN L A F k = some (k + (encG f m).length - 1) ∧ accN L A (k + (encG f m).length) = accN L A k + m * 128 ^ k ∧ (byteAt L (A + (k + (encG f m).length - 1)) = 0 → m = 0)
  | f, m, k, F, hm, hF, hb, hl => by
    by_cases hs : m < 128
    · rw [encG_small hs] at hF hb hl ⊢
      simp at hF hl ⊢
      have h0 := hb 0 (by simp)
      rw [Nat.add_zero, byteAt_ofNat (by omega)] at h0
      obtain ⟨F', rfl⟩ : ∃ F', F = F' + 1 := ⟨F - 1, by omega⟩
      refine ⟨?_, ?_, ?_⟩
      · rw [scanN, if_pos (by omega), if_pos (by omega)]
      · show accN L A k + (byteAt L (A + k)).toNat % 128 * 128 ^ k = _
        rw [h0, Int.toNat_natCast, Nat.mod_eq_of_lt hs]
      · intro h; rw [h0] at h; omega
    · cases f with
      | zero => simp at hm; omega
      | succ f =>
        rw [encG_big hs] at hF hb hl ⊢
        simp only [List.length_cons] at hF hb hl ⊢
        have h0 := hb 0 (by omega)
        rw [Nat.add_zero, byteAt_ofNat (by omega)] at h0
        obtain ⟨F', rfl⟩ : ∃ F', F = F' + 1 := ⟨F - 1, by omega⟩
        have hp := encG_pos f (m / 128)
        have ih := scan_enc L A f (m / 128) (k + 1) F' (by rw [Nat.pow_succ] at hm; exact Nat.div_lt_of_lt_mul (by omega)) (by omega)
          (fun j hj => by
            have := hb (j + 1) (by omega)
            rw [byteAt_cons] at this
            rw [← this, show A + (k + 1) + j = A + k + (j + 1) by omega])
          (by omega)
        obtain ⟨i1, i2, i3⟩ := ih
        refine ⟨?_, ?_, ?_⟩
        · rw [scanN, if_pos (by omega), if_neg (by omega), i1]
          congr 1; omega
        · rw [show k + ((encG f (m / 128)).length + 1) = k + 1 + (encG f (m / 128)).length by omega, i2]
          show accN L A k + (byteAt L (A + k)).toNat % 128 * 128 ^ k + m / 128 * 128 ^ (k + 1) = _
          rw [h0, Nat.pow_succ]
          have e : (((m % 128 + 128 : Nat) : Int)).toNat % 128 = m % 128 := by omega
          rw [e, show m / 128 * (128 ^ k * 128) = (m / 128 * 128) * 128 ^ k by rw [Nat.mul_assoc, Nat.mul_comm 128 (128 ^ k)], Nat.add_assoc, ← Nat.add_mul]
          rw [show m % 128 + m / 128 * 128 = m by omega]
        · intro h
          rw [show k + ((encG f (m / 128)).length + 1) - 1 = k + 1 + (encG f (m / 128)).length - 1 by omega] at h
          have := i3 h
          omega

/-- cut by one byte no number stands there -/
theorem scan_cut (L : List UInt8) (A : Nat) : ∀ f m k F, m < 128 ^ (f + 1) →
    (∀ j, j + 1 < (encG f m).length → byteAt L (A + k + j) = byteAt (encG f m) j) → A + k + (encG f m).length = L.length + 1 → scanN L A F k = none
  | f, m, k, 0, hm, hb, hl => rfl
  | f, m, k, F + 1, hm, hb, hl => by
    by_cases hs : m < 128
    · rw [encG_small hs] at hl
      simp at hl
      rw [scanN, if_neg (by omega)]
    · cases f with
      | zero => simp at hm; omega
      | succ f =>
        rw [encG_big hs] at hb hl
        simp only [List.length_cons] at hb hl
        have hp := encG_pos f (m / 128)
        have h0 := hb 0 (by omega)
        rw [Nat.add_zero, byteAt_ofNat (by omega)] at h0
        rw [scanN, if_pos (by omega), if_neg (by omega)]
        exact scan_cut L A f (m / 128) (k + 1) F (by rw [Nat.pow_succ] at hm; exact Nat.div_lt_of_lt_mul (by omega))
          (fun j hj => by
            have := hb (j + 1) (by omega)
            rw [byteAt_cons] at this
            rw [← this, show A + (k + 1) + j = A + k + (j + 1) by omega])
          (by omega)

theorem unf_fold (n : Int) : unfN (foldN n) = n := by
  by_cases h : n < 0
  · have := foldN_neg h
    rw [unfN_odd (by omega)]; omega
  · have := foldN_pos h
    rw [unfN_even (by omega)]; omega

/-- a number that was put comes back, whatever stands behind it -/
theorem num_back (bs tl : List UInt8) (n : Int) : numR (bs ++ encN n ++ tl) (bs.length : Int) = (clampN n, ((bs ++ encN n).length : Int), true) := by
  have hm := foldN_le (clampN_in n)
  have hf := encG_fit 5 (foldN (clampN n)) 4 (by omega)
  have hp := encG_pos 5 (foldN (clampN n))
  have hs := scan_enc (bs ++ encN n ++ tl) bs.length 5 (foldN (clampN n)) 0 5 (by omega) hf
    (fun j hj => by
      rw [Nat.add_zero, List.append_assoc, byteAt_append]
      unfold byteAt encN
      simp [List.getD, List.getElem?_append_left hj])
    (by simp [encN])
  simp only [Nat.zero_add, Nat.pow_zero, Nat.mul_one] at hs
  obtain ⟨h1, h2, h3⟩ := hs
  rw [numR_some h1, show (encG 5 (foldN (clampN n))).length - 1 + 1 = (encG 5 (foldN (clampN n))).length by omega, h2]
  have e : accN (bs ++ encN n ++ tl) bs.length 0 = 0 := rfl
  rw [e, Nat.zero_add, unf_fold]
  rw [if_neg]
  · simp [encN]; omega
  · rintro (⟨ha, hb⟩ | hb)
    · have := h3 hb
      rw [this, encG_small (by omega)] at ha
      simp at ha
    · omega
theorem num_cut (bs : List UInt8) (n : Int) : (numR ((bs ++ encN n).take ((bs ++ encN n).length - 1)) (bs.length : Int)).2.2 = false := by
  have hm := foldN_le (clampN_in n)
  have hp := encG_pos 5 (foldN (clampN n))
  have hl : ((bs ++ encN n).take ((bs ++ encN n).length - 1)).length = bs.length + (encG 5 (foldN (clampN n))).length - 1 := by
    simp [encN]
  rw [numR_none (scan_cut _ bs.length 5 (foldN (clampN n)) 0 5 (by omega) (fun j hj => by
    rw [Nat.add_zero]
    have e := byteAt_append bs (encN n) j
    unfold byteAt at e ⊢
    rw [← show encN n = encG 5 (foldN (clampN n)) from rfl, ← e]
    simp only [List.getD]
    rw [List.getElem?_take, if_pos (by simp [encN]; omega)]) (by rw [hl]; omega))]

theorem encT_back (bs : List UInt8) (s : ByteArray) (hs : s.size ≤ 1000000000) :
    textR (bs ++ (encN s.size ++ s.data.toList)) (bs.length : Int) = (s, ((bs ++ (encN s.size ++ s.data.toList)).length : Int), true) := by
  have e : s.data.toList.length = s.size := by rw [Array.length_toList]; rfl
  have hc : clampN (s.size : Int) = s.size := by unfold clampN; rw [if_neg (by omega), if_neg (by omega)]
  have hn := num_back bs s.data.toList s.size
  rw [hc, List.append_assoc] at hn
  rw [textR_yes (bs ++ (encN s.size ++ s.data.toList)) bs.length (bs ++ encN s.size).length s.size (by rw [hn]; simp; omega) (by rw [hn]) (by rw [hn])]
  rw [← List.append_assoc, List.drop_left' rfl, List.take_of_length_le (by omega)]
  simp; omega
end Go.Proofs.YtlaoiagpoomldabDoor
/-
  Texts as bytes, plainly: what PutText writes behind.
-/
namespace Go.Proofs.YtlaoiagpoomldabDoor
open Go.RowKit
set_option linter.unusedVariables false

def encT (s : ByteArray) : List UInt8 := encN s.size ++ s.data.toList
theorem encT_length (s : ByteArray) : (encT s).length ≤ 6 + s.size := by
  have := encN_length s.size
  have e : s.data.toList.length = s.size := by rw [Array.length_toList]; rfl
  simp [encT]; omega
theorem strCells_vals (s : ByteArray) : Lib.strCells s = vals s.data.toList := rfl
theorem encT_join (bs : List UInt8) (s : ByteArray) : vals (bs ++ encN s.size) ++ Lib.strCells s = vals (bs ++ encT s) := by
  rw [strCells_vals, ← vals_append]; simp [encT]
theorem encT_len (bs : List UInt8) (s : ByteArray) : bs.length + (encN s.size).length + s.size = (bs ++ encT s).length := by
  have e : s.data.toList.length = s.size := by rw [Array.length_toList]; rfl
  simp only [encT, List.length_append]; omega

end Go.Proofs.YtlaoiagpoomldabDoor
/-
  Values as bytes, plainly: what PutVal writes behind.
-/
namespace Go.Proofs.YtlaoiagpoomldabDoor
open Go.RowKit
set_option linter.unusedVariables false

def encV (K N : Int) (S : ByteArray) : List UInt8 := encN K ++ (if K = 1 then encN N else encT S)
theorem encV_num (N : Int) (S : ByteArray) : encV 1 N S = encN 1 ++ encN N := by simp [encV]
theorem encV_text {K : Int} (N : Int) (S : ByteArray) (h : K ≠ 1) : encV K N S = encN K ++ encT S := by simp [encV, h]
theorem encV_length (K N : Int) (S : ByteArray) : (encV K N S).length ≤ 12 + S.size := by
  have h1 := encN_length K
  have h2 := encN_length N
  have h3 := encT_length S
  unfold encV
  split <;> simp <;> omega
theorem encV_pos (K N : Int) (S : ByteArray) : 0 < (encV K N S).length := by
  have h1 := encN_pos K
  unfold encV
  simp; omega
end Go.Proofs.YtlaoiagpoomldabDoor
/-
  Values in bytes, plainly: what GetVal reads.
-/
namespace Go.Proofs.YtlaoiagpoomldabDoor
open Go.RowKit
set_option linter.unusedVariables false

theorem numR_false {bs : List UInt8} {x : Int} (h : (numR bs x).2.2 = false) : numR bs x = (0, 0, false) := by
  by_cases h0 : x < 0
  · exact numR_neg h0
  · obtain ⟨A, rfl⟩ := Int.eq_ofNat_of_zero_le (show 0 ≤ x by omega)
    cases hs : scanN bs A 5 0 with
    | none => exact numR_none hs
    | some k =>
      rw [numR_some hs] at h ⊢
      split at h
      · rename_i hc; rw [if_pos hc]
      · simp at h
theorem textR_size (bs : List UInt8) (x : Int) : (textR bs x).1.size ≤ bs.length := by
  unfold textR
  split
  · exact Nat.zero_le _
  · show (((bs.drop _).take _).toArray).size ≤ _
    simp; omega

/-- what GetVal answers -/
def valR (bs : List UInt8) (x : Int) : Int × Int × ByteArray × Int × Bool :=
  if (numR bs x).2.2 = false then (0, 0, ⟨#[]⟩, 0, false)
  else if (numR bs x).1 = 1 then
    if (numR bs (numR bs x).2.1).2.2 && valB 1 (numR bs (numR bs x).2.1).1 ⟨#[]⟩ then (1, (numR bs (numR bs x).2.1).1, ⟨#[]⟩, (numR bs (numR bs x).2.1).2.1, true) else (0, 0, ⟨#[]⟩, 0, false)
  else
    if (textR bs (numR bs x).2.1).2.2 && valB (numR bs x).1 0 (textR bs (numR bs x).2.1).1 then ((numR bs x).1, 0, (textR bs (numR bs x).2.1).1, (textR bs (numR bs x).2.1).2.1, true) else (0, 0, ⟨#[]⟩, 0, false)
def valT (r : Int × Int × ByteArray × Int × Bool) : Value := .tuple #[.agg #[.int .i64 r.1, .int .i64 r.2.1, .string r.2.2.1], .int .i64 r.2.2.2.1, .bool r.2.2.2.2]
theorem valR_no {bs : List UInt8} {x : Int} (h : (numR bs x).2.2 = false) : valR bs x = (0, 0, ⟨#[]⟩, 0, false) := by unfold valR; rw [if_pos h]
theorem valR_num {bs : List UInt8} {x p n q : Int} {b : Bool} (h : numR bs x = (1, p, true)) (h2 : numR bs p = (n, q, b)) :
    valR bs x = if b && valB 1 n ⟨#[]⟩ then (1, n, ⟨#[]⟩, q, true) else (0, 0, ⟨#[]⟩, 0, false) := by
  unfold valR; rw [h, if_neg (by simp), if_pos rfl, h2]
theorem valR_text {bs : List UInt8} {x k p q : Int} {s : ByteArray} {b : Bool} (h : numR bs x = (k, p, true)) (hk : k ≠ 1) (h2 : textR bs p = (s, q, b)) :
    valR bs x = if b && valB k 0 s then (k, 0, s, q, true) else (0, 0, ⟨#[]⟩, 0, false) := by
  unfold valR; rw [h, if_neg (by simp), if_neg hk, h2]
theorem ret_val {bs : List UInt8} {x : Int} {r : Int × Int × ByteArray × Int × Bool} (h : valR bs x = r) : Ending.returned (valT r) = .returned (valT (valR bs x)) := by rw [h]
end Go.Proofs.YtlaoiagpoomldabDoor
/-
  What the model's l2Whole answers: wholeL of the text, in the world as it was.
-/
namespace Go.Proofs.YtlaoiagpoomldabDoor
open Go.RowKit Go.Lib
set_option linter.unusedVariables false

theorem decFrom_app : ∀ (a b : List UInt8) (acc : Nat), decFrom acc (a ++ b) = match decFrom acc a with
    | some m => decFrom m b
    | none => none
  | [], b, acc => rfl
  | c :: r, b, acc => by
    simp only [List.cons_append, decFrom]
    cases digitVal c with
    | none => rfl
    | some d => exact decFrom_app r b _

theorem whole_bad {l : List UInt8} (h : l.length < 1 ∨ 10 < l.length ∨ (1 < l.length ∧ l.head? = some 48)) : wholeL l = -1 := by
  unfold wholeL; rw [if_pos h]
theorem whole_go {l : List UInt8} (h : ¬ (l.length < 1 ∨ 10 < l.length ∨ (1 < l.length ∧ l.head? = some 48))) {m : Nat} (hm : decFrom 0 l = some m) : wholeL l = (m : Int) := by
  unfold wholeL; rw [if_neg h, hm]
theorem whole_none {l : List UInt8} (hm : decFrom 0 l = none) : wholeL l = -1 := by
  unfold wholeL; split
  · rfl
  · rw [hm]
theorem take_step {l : List UInt8} {k : Nat} (hk : k < l.length) : l.take (k + 1) = l.take k ++ [l[k]] := by
  rw [List.take_succ_eq_append_getElem hk]
theorem dec_step {l : List UInt8} {k m : Nat} (hk : k < l.length) (h : decFrom 0 (l.take k) = some m) (h1 : 48 ≤ l[k].toNat) (h2 : l[k].toNat ≤ 57) : decFrom 0 (l.take (k + 1)) = some (m * 10 + (l[k].toNat - 48)) := by
  rw [take_step hk, decFrom_snoc, h]
  simp [digitVal, h1, h2]
theorem dec_stop {l : List UInt8} {k m : Nat} (hk : k < l.length) (h : decFrom 0 (l.take k) = some m) (h1 : ¬ (48 ≤ l[k].toNat ∧ l[k].toNat ≤ 57)) : decFrom 0 l = none := by
  have e : decFrom 0 (l.take (k + 1)) = none := by
    rw [take_step hk, decFrom_snoc, h]
    simp only [digitVal, if_neg h1]
  have := decFrom_app (l.take (k + 1)) (l.drop (k + 1)) 0
  rw [List.take_append_drop, e] at this
  exact this
theorem pow_small {k m : Nat} (hk : k ≤ 9) (h : m < 10 ^ k) : m < 1000000000 := Nat.lt_of_lt_of_le h (Nat.pow_le_pow_right (by omega) hk)

set_option maxRecDepth 100000 in
set_option maxHeartbeats 1600000 in
theorem l2Whole_any (s : ByteArray) (w : World) (hs : s.size ≤ maxLen) :
    Calls Tryd.prog 127 #[.string s] w fun e w' => e = .returned (.int .i64 (wholeL s.data.toList)) ∧ w' = w := by
  unfold maxLen at hs
  have hl : s.data.toList.length = s.size := by rw [Array.length_toList]; rfl
  by_cases h1 : 1 ≤ s.size ∧ s.size ≤ 10
  · obtain ⟨h1a, h1b⟩ := h1
    have hd : s.data.toList.head? = some (s[0]'(by omega)) := by
      rw [List.head?_eq_getElem?, List.getElem?_eq_getElem (by omega)]
      simp [ByteArray.getElem_eq_getElem_data]
    by_cases h2 : 1 < s.size ∧ (s[0]'(by omega)) = 48
    · obtain ⟨h2a, h2b⟩ := h2
      have HW := hide (whole_bad (l := s.data.toList) (.inr (.inr ⟨by omega, by rw [hd, h2b]⟩)))
      clear hd
      have h2c : ((s[0]'(by omega)).toNat : Int) = 48 := by rw [h2b]; rfl
      go_enter Tryd.func127, Tryd.ntmps127
      go_wp2_with (go_at_call 78; refine (l1In_any _ _ _ _).mono ?_; rw [inB_t (by omega)]; rintro e w' ⟨rfl, rfl⟩)
      go_ret
      exact ⟨ret_int HW.out.symm, rfl⟩
    · have hgood : ¬ (s.data.toList.length < 1 ∨ 10 < s.data.toList.length ∨ (1 < s.data.toList.length ∧ s.data.toList.head? = some 48)) := by
        rintro (h | h | ⟨h, h'⟩)
        · omega
        · omega
        · exact h2 ⟨by omega, by rw [hd] at h'; exact Option.some.inj h'⟩
      have HG := hide (fun m => whole_go hgood (m := m))
      have h2c : s.size = 1 ∨ ((s[0]'(by omega)).toNat : Int) ≠ 48 := by
        by_cases h : s.size = 1
        · exact .inl h
        · exact .inr (fun h' => h2 ⟨by omega, UInt8.toNat_inj.1 (by have : (48 : UInt8).toNat = 48 := rfl; omega)⟩)
      clear hd hgood h2
      by_cases hone : s.size = 1
      · have hn1 : ¬ ((1 : Int) < (s.size : Int)) := by omega
        clear h2c
        go_enter Tryd.func127, Tryd.ntmps127
        go_wp2_with (go_at_call 78; refine (l1In_any _ _ _ _).mono ?_; rw [inB_t (by omega)]; rintro e w' ⟨rfl, rfl⟩)
        go_loop [3, 4] (fun n i => ∃ m k : Nat, k ≤ s.size ∧ n = .int .i64 m ∧ i = .int .i64 k ∧ m < 10 ^ k ∧ decFrom 0 (s.data.toList.take k) = some m) (fun n i => s.size - (intOf i).toNat)
        case atStart => exact ⟨0, 0, Nat.zero_le _, rfl, rfl, by decide, by simp [decFrom]⟩
        case round =>
          obtain ⟨m, k, hk, rfl, rfl, hm, hdec⟩ := hrel
          by_cases hlt : k < s.size
          · have hx : (s.data.toList[k]'(by omega)) = (s[k]'hlt) := by simp [ByteArray.getElem_eq_getElem_data]
            have hlb : 0 ≤ ((s[k]'hlt).toNat : Int) := by omega
            have hub : ((s[k]'hlt).toNat : Int) ≤ 255 := by have := (s[k]'hlt).toNat_lt; omega
            by_cases h3 : 48 ≤ (s[k]'hlt).toNat ∧ (s[k]'hlt).toNat ≤ 57
            · have HD := hide (dec_step (by omega) hdec (by rw [hx]; exact h3.1) (by rw [hx]; exact h3.2))
              rw [hx] at HD
              have HP := hide hm
              have hsm := pow_small (by omega) hm
              obtain ⟨h3a, h3b⟩ := h3
              clear hdec hx hm
              go_wp2_with (go_at_call 78; refine (l1In_any _ _ _ _).mono ?_; rw [inB_t (by omega)]; rintro e w' ⟨rfl, rfl⟩)
              go_round
              case rel => exact ⟨m * 10 + ((s[k]'hlt).toNat - 48), k + 1, by omega, by go_num, by go_num, by have := HP.out; rw [Nat.pow_succ]; omega, HD.out⟩
              case measure => simp [intOf]; omega
            · have HN := hide (whole_none (dec_stop (by omega) hdec (by rw [hx]; exact h3)))
              clear hdec hx hm
              go_wp2_with (go_at_call 78; refine (l1In_any _ _ _ _).mono ?_; rw [inB_f (by omega)]; rintro e w' ⟨rfl, rfl⟩)
              go_ret
              exact ⟨ret_int HN.out.symm, rfl⟩
          · have HN := hide (HG.out m (by rw [List.take_of_length_le (by omega)] at hdec; exact hdec))
            clear hdec hm
            go_wp2
            go_ret
            exact ⟨ret_int HN.out.symm, rfl⟩
      · have hn1 : (1 : Int) < (s.size : Int) := by omega
        have hne : (((s[0]'(by omega)).toNat : Int) == 48) = false := by simp; rcases h2c with h | h; exact absurd h hone; omega
        clear h2c
        go_enter Tryd.func127, Tryd.ntmps127
        go_wp2_with (go_at_call 78; refine (l1In_any _ _ _ _).mono ?_; rw [inB_t (by omega)]; rintro e w' ⟨rfl, rfl⟩)
        go_loop [3, 4] (fun n i => ∃ m k : Nat, k ≤ s.size ∧ n = .int .i64 m ∧ i = .int .i64 k ∧ m < 10 ^ k ∧ decFrom 0 (s.data.toList.take k) = some m) (fun n i => s.size - (intOf i).toNat)
        case atStart => exact ⟨0, 0, Nat.zero_le _, rfl, rfl, by decide, by simp [decFrom]⟩
        case round =>
          obtain ⟨m, k, hk, rfl, rfl, hm, hdec⟩ := hrel
          by_cases hlt : k < s.size
          · have hx : (s.data.toList[k]'(by omega)) = (s[k]'hlt) := by simp [ByteArray.getElem_eq_getElem_data]
            have hlb : 0 ≤ ((s[k]'hlt).toNat : Int) := by omega
            have hub : ((s[k]'hlt).toNat : Int) ≤ 255 := by have := (s[k]'hlt).toNat_lt; omega
            by_cases h3 : 48 ≤ (s[k]'hlt).toNat ∧ (s[k]'hlt).toNat ≤ 57
            · have HD := hide (dec_step (by omega) hdec (by rw [hx]; exact h3.1) (by rw [hx]; exact h3.2))
              rw [hx] at HD
              have HP := hide hm
              have hsm := pow_small (by omega) hm
              obtain ⟨h3a, h3b⟩ := h3
              clear hdec hx hm
              go_wp2_with (go_at_call 78; refine (l1In_any _ _ _ _).mono ?_; rw [inB_t (by omega)]; rintro e w' ⟨rfl, rfl⟩)
              go_round
              case rel => exact ⟨m * 10 + ((s[k]'hlt).toNat - 48), k + 1, by omega, by go_num, by go_num, by have := HP.out; rw [Nat.pow_succ]; omega, HD.out⟩
              case measure => simp [intOf]; omega
            · have HN := hide (whole_none (dec_stop (by omega) hdec (by rw [hx]; exact h3)))
              clear hdec hx hm
              go_wp2_with (go_at_call 78; refine (l1In_any _ _ _ _).mono ?_; rw [inB_f (by omega)]; rintro e w' ⟨rfl, rfl⟩)
              go_ret
              exact ⟨ret_int HN.out.symm, rfl⟩
          · have HN := hide (HG.out m (by rw [List.take_of_length_le (by omega)] at hdec; exact hdec))
            clear hdec hm
            go_wp2
            go_ret
            exact ⟨ret_int HN.out.symm, rfl⟩
  · have HW := hide (whole_bad (l := s.data.toList) (by omega))
    go_enter Tryd.func127, Tryd.ntmps127
    go_wp2_with (go_at_call 78; refine (l1In_any _ _ _ _).mono ?_; rw [inB_f (by omega)]; rintro e w' ⟨rfl, rfl⟩)
    go_ret
    exact ⟨ret_int HW.out.symm, rfl⟩
end Go.Proofs.YtlaoiagpoomldabDoor
/-
  What ParseVal answers, plainly: a number's one text (numV), or a text between two quotes; and that reading loosely, then writing and comparing, answers the same (number part).
-/
namespace Go.Proofs.YtlaoiagpoomldabDoor
open Go.Lib
set_option linter.unusedVariables false

theorem valB_whole (n : Int) : valB 1 n ⟨#[]⟩ = numOk n := by
  have : (ByteArray.mk #[]).size = 0 := rfl
  simp [valB, inB, numOk, this]
theorem valB_zero : valB 0 0 ⟨#[]⟩ = false := by simp [valB]

/-- a text's list and the text -/
theorem eq_mk {s : ByteArray} {l : List UInt8} : (⟨l.toArray⟩ : ByteArray) = s ↔ l = s.data.toList := by
  constructor
  · rintro rfl; simp
  · intro h; apply ByteArray.ext; rw [h]

/-- the number that a loose reading answers stands the test just where the text is that number's one text -/
theorem loose_ok {s : ByteArray} {n : Int} (h : atoiAll s.data.toList = .ok n) :
    (valB 1 n ⟨#[]⟩ = true ∧ textV 1 n ⟨#[]⟩ = s) ↔ numV s.data.toList = some n := by
  constructor
  · rintro ⟨hv, ht⟩
    rw [textV_num hv, eq_mk] at ht
    rw [← ht]
    exact numV_itoa (by rw [← valB_whole]; exact hv)
  · intro hn
    obtain ⟨hk, e⟩ := numV_some hn
    have hv : valB 1 n ⟨#[]⟩ = true := by rw [valB_whole]; exact hk
    exact ⟨hv, by rw [textV_num hv, eq_mk]; exact e.symm⟩
theorem loose_only {s : ByteArray} {n m : Int} (h : atoiAll s.data.toList = .ok n) (hm : numV s.data.toList = some m) : m = n := by
  obtain ⟨hk, e⟩ := numV_some hm
  have := atoi_itoa hk
  rw [← e, h] at this
  exact (by injection this with h; exact h.symm)
theorem loose_none {s : ByteArray} (h : ∀ n, atoiAll s.data.toList ≠ .ok n) : numV s.data.toList = none := by
  cases hn : numV s.data.toList with
  | none => rfl
  | some m =>
    obtain ⟨hk, e⟩ := numV_some hn
    exact absurd (by rw [e]; exact atoi_itoa hk) (h m)
end Go.Proofs.YtlaoiagpoomldabDoor
/-
  What strconv.Atoi answers: the number, or an error.
-/
namespace Go.Proofs.YtlaoiagpoomldabDoor
open Go.RowKit Go.Lib
set_option linter.unusedVariables false

/-- the library's two errors are there -/
def Errs (w : World) : Prop := (∃ tp p, w.var? Tryd.prog "strconv.ErrSyntax" = some #[.iface tp p]) ∧ (∃ tp p, w.var? Tryd.prog "strconv.ErrRange" = some #[.iface tp p])
/-- (at a program that has strconv.Atoi, its function 162) -/
theorem gSyn : ∃ g, Tryd.prog.globalNamed "strconv.ErrSyntax" = some g := Option.isSome_iff_exists.1 (by kernel_rfl)
/-- (at a program that has strconv.Atoi, its function 162) -/
theorem gRan : ∃ g, Tryd.prog.globalNamed "strconv.ErrRange" = some g := Option.isSome_iff_exists.1 (by kernel_rfl)
/-- (at a program that has strconv.Atoi, its function 162) -/
theorem Errs.later {w w' : World} {B : Nat} (h : Errs w) (hb : Below B w w') (hB : w.heap.size ≤ B) : Errs w' := by
  obtain ⟨⟨t1, p1, h1⟩, ⟨t2, p2, h2⟩⟩ := h
  obtain ⟨g, hg⟩ := gSyn
  obtain ⟨g', hg'⟩ := gRan
  exact ⟨⟨t1, p1, Joins.var_stays hg h1 hb hB⟩, ⟨t2, p2, Joins.var_stays hg' h2 hb hB⟩⟩

/-- what strconv.Atoi answers where it reads no number: an error, whatever stands beside it -/
theorem atoi_no (s : ByteArray) (w : World) (hs : s.size ≤ 1048576) (he : Errs w) (h : ∀ n, atoiAll s.data.toList ≠ .ok n) :
    Calls Tryd.prog 162 #[.string s] w fun e w' => ∃ (z : Int) (t : TypeId) (N : Nat), e = .returned (.tuple #[.int .i64 z, .iface t (.pointer (some ⟨N, 0, none⟩))]) ∧ Below w.heap.size w w' := by
  obtain ⟨⟨t1, p1, h1⟩, ⟨t2, p2, h2⟩⟩ := he
  cases hx : atoiAll s.data.toList with
  | ok n => exact absurd hx (h n)
  | «syntax» =>
    refine (Tryd.strconv_Atoi_syntax_var s (by omega) hx t1 p1 w h1).mono ?_
    rintro e w' ⟨N, rfl, _, _, hb⟩
    exact ⟨_, _, N, rfl, hb⟩
  | range =>
    refine (Tryd.strconv_Atoi_range_var s (by omega) hx t2 p2 w h2).mono ?_
    rintro e w' ⟨N, rfl, _, _, hb⟩
    exact ⟨_, _, N, rfl, hb⟩
theorem atoi_yes (s : ByteArray) (w : World) (n : Int) (hs : s.size ≤ 1048576) (h : atoiAll s.data.toList = .ok n) :
    Calls Tryd.prog 162 #[.string s] w fun e w' => e = .returned (.tuple #[.int .i64 n, .nilIface]) ∧ Below w.heap.size w w' := by
  refine (Tryd.strconv_Atoi_ok s (by omega) n h w).mono ?_
  rintro e w' ⟨rfl, rfl | ⟨t, rfl⟩⟩
  · exact ⟨rfl, Below.refl _ _⟩
  · exact ⟨rfl, Joins.below_bytesWorld _ _ _ _ (Nat.le_refl _)⟩
end Go.Proofs.YtlaoiagpoomldabDoor
/-
  What impl.looseVal answers: what stands between a text's first byte and its last, where the first is a quote; else the number that strconv.Atoi reads; else nothing.
-/
namespace Go.Proofs.YtlaoiagpoomldabDoor
open Go.RowKit Go.Lib
set_option linter.unusedVariables false

set_option maxHeartbeats 800000 in
theorem looseVal_quote (s : ByteArray) (w : World) (hs : s.size ≤ 1048576) (h2 : 2 ≤ s.size) (h0 : ((s[0]'(by omega)).toNat : Int) = 39) :
    Calls Tryd.prog 148 #[.string s] w fun e w' => e = .returned (.agg #[.int .i64 2, .int .i64 0, .string (s.extract 1 (s.size - 1))]) ∧ Below w.heap.size w w' := by
  have hl : (2 : Int) ≤ (s.size : Int) := by omega
  go_enter Tryd.func148, Tryd.ntmps148
  go_wp2
  obtain ⟨c0, c1, c2, -, -, -⟩ := box_cell (box_new w (.int .i64 2) (.int .i64 0) (.string (s.extract 1 (s.size - 1))) 30)
  exact bodyPost_ret (v := .agg #[.int .i64 2, .int .i64 0, .string (s.extract 1 (s.size - 1))]) (by simp only [results, Tryd.results148]; simp [go_sem, c0, c1, c2]) rfl ⟨rfl, (Below.refl w.heap.size w).alloc (Nat.le_refl _) _⟩

set_option maxHeartbeats 1600000 in
theorem looseVal_ok (s : ByteArray) (w : World) (n : Int) (hs : s.size ≤ 1048576) (h2 : s.size < 2 ∨ bat s 0 ≠ 39) (h : atoiAll s.data.toList = .ok n) :
    Calls Tryd.prog 148 #[.string s] w fun e w' => e = .returned (.agg #[.int .i64 1, .int .i64 n, .string ⟨#[]⟩]) ∧ Below w.heap.size w w' := by
  have H := hide h
  clear h
  by_cases hl : 2 ≤ s.size
  · have h0 : (((s[0]'(by omega)).toNat : Int) == 39) = false := by
      rcases h2 with h | h
      · omega
      · rw [bat_in (by omega)] at h; simpa using h
    have hl' : (2 : Int) ≤ (s.size : Int) := by omega
    clear h2
    go_enter Tryd.func148, Tryd.ntmps148
    go_wp2_with fail
    refine (atoi_yes s _ n hs H.out).mono ?_
    rintro e w1 ⟨rfl, hb⟩
    have HR := hide (box_below (box_new w (.int .i64 0) (.int .i64 0) (.string ⟨#[]⟩) 30) hb (by simp))
    have hB1 : Below w.heap.size w w1 := ((Below.refl w.heap.size w).alloc (Nat.le_refl _) _).trans (hb.mono (by simp))
    clear hb
    obtain ⟨c0, c1, c2, f0, f1, f2⟩ := box_cell HR.out
    go_wp2
    refine box_post HR.out (fun w4 h4 gr => ?_)
    clear c0 c1 c2 f0 f1 f2
    obtain ⟨c0, c1, c2, -, -, -⟩ := box_cell h4
    exact bodyPost_ret (v := .agg #[.int .i64 1, .int .i64 n, .string ⟨#[]⟩]) (by simp [results, Tryd.results148, go_sem, c0, c1, c2]) rfl ⟨rfl, below_set hB1 gr (by omega)⟩
  · have hl' : ¬ ((2 : Int) ≤ (s.size : Int)) := by omega
    clear h2
    go_enter Tryd.func148, Tryd.ntmps148
    go_wp2_with fail
    refine (atoi_yes s _ n hs H.out).mono ?_
    rintro e w1 ⟨rfl, hb⟩
    have HR := hide (box_below (box_new w (.int .i64 0) (.int .i64 0) (.string ⟨#[]⟩) 30) hb (by simp))
    have hB1 : Below w.heap.size w w1 := ((Below.refl w.heap.size w).alloc (Nat.le_refl _) _).trans (hb.mono (by simp))
    clear hb
    obtain ⟨c0, c1, c2, f0, f1, f2⟩ := box_cell HR.out
    go_wp2
    refine box_post HR.out (fun w4 h4 gr => ?_)
    clear c0 c1 c2 f0 f1 f2
    obtain ⟨c0, c1, c2, -, -, -⟩ := box_cell h4
    exact bodyPost_ret (v := .agg #[.int .i64 1, .int .i64 n, .string ⟨#[]⟩]) (by simp [results, Tryd.results148, go_sem, c0, c1, c2]) rfl ⟨rfl, below_set hB1 gr (by omega)⟩
set_option maxHeartbeats 1600000 in
theorem looseVal_no (s : ByteArray) (w : World) (hs : s.size ≤ 1048576) (h2 : s.size < 2 ∨ bat s 0 ≠ 39) (he : Errs w) (h : ∀ n, atoiAll s.data.toList ≠ .ok n) :
    Calls Tryd.prog 148 #[.string s] w fun e w' => e = .returned (.agg #[.int .i64 0, .int .i64 0, .string ⟨#[]⟩]) ∧ Below w.heap.size w w' := by
  have H := hide h
  have HE := hide he
  clear h he
  by_cases hl : 2 ≤ s.size
  · have h0 : (((s[0]'(by omega)).toNat : Int) == 39) = false := by
      rcases h2 with h | h
      · omega
      · rw [bat_in (by omega)] at h; simpa using h
    have hl' : (2 : Int) ≤ (s.size : Int) := by omega
    clear h2
    go_enter Tryd.func148, Tryd.ntmps148
    go_wp2_with fail
    refine (atoi_no s _ hs (HE.out.later ((Below.refl w.heap.size w).alloc (Nat.le_refl _) _) (Nat.le_refl _)) H.out).mono ?_
    rintro e w1 ⟨z, t, N, rfl, hb⟩
    have HR := hide (box_below (box_new w (.int .i64 0) (.int .i64 0) (.string ⟨#[]⟩) 30) hb (by simp))
    have hB1 : Below w.heap.size w w1 := ((Below.refl w.heap.size w).alloc (Nat.le_refl _) _).trans (hb.mono (by simp))
    clear hb
    obtain ⟨c0, c1, c2, f0, f1, f2⟩ := box_cell HR.out
    go_wp2
    refine box_post HR.out (fun w4 h4 gr => ?_)
    clear c0 c1 c2 f0 f1 f2
    obtain ⟨c0, c1, c2, -, -, -⟩ := box_cell h4
    exact bodyPost_ret (v := .agg #[.int .i64 0, .int .i64 0, .string ⟨#[]⟩]) (by simp [results, Tryd.results148, go_sem, c0, c1, c2]) rfl ⟨rfl, below_set hB1 gr (by omega)⟩
  · have hl' : ¬ ((2 : Int) ≤ (s.size : Int)) := by omega
    clear h2
    go_enter Tryd.func148, Tryd.ntmps148
    go_wp2_with fail
    refine (atoi_no s _ hs (HE.out.later ((Below.refl w.heap.size w).alloc (Nat.le_refl _) _) (Nat.le_refl _)) H.out).mono ?_
    rintro e w1 ⟨z, t, N, rfl, hb⟩
    have HR := hide (box_below (box_new w (.int .i64 0) (.int .i64 0) (.string ⟨#[]⟩) 30) hb (by simp))
    have hB1 : Below w.heap.size w w1 := ((Below.refl w.heap.size w).alloc (Nat.le_refl _) _).trans (hb.mono (by simp))
    clear hb
    obtain ⟨c0, c1, c2, f0, f1, f2⟩ := box_cell HR.out
    go_wp2
    refine box_post HR.out (fun w4 h4 gr => ?_)
    clear c0 c1 c2 f0 f1 f2
    obtain ⟨c0, c1, c2, -, -, -⟩ := box_cell h4
    exact bodyPost_ret (v := .agg #[.int .i64 0, .int .i64 0, .string ⟨#[]⟩]) (by simp [results, Tryd.results148, go_sem, c0, c1, c2]) rfl ⟨rfl, below_set hB1 gr (by omega)⟩
end Go.Proofs.YtlaoiagpoomldabDoor
/-
  What impl.ParseVal answers: what the loose reading answers, where that is a value whose one text is the given one; else nothing.
-/
namespace Go.Proofs.YtlaoiagpoomldabDoor
open Go.RowKit Go.Lib
set_option linter.unusedVariables false

/-- the answer, as the call gives it -/
def ansV (b : Bool) (K N : Int) (S : ByteArray) : Value := if b then .tuple #[.agg #[.int .i64 K, .int .i64 N, .string S], .bool true] else .tuple #[.agg #[.int .i64 0, .int .i64 0, .string ⟨#[]⟩], .bool false]

set_option maxRecDepth 100000 in
set_option maxHeartbeats 1600000 in
theorem implParse_of (s : ByteArray) (K N : Int) (S : ByteArray) (w : World) (hs : S.size ≤ maxLen) (ht : Tab w)
    (hL : ∀ W, Below w.heap.size w W → Calls Tryd.prog 148 #[.string s] W fun e w' => e = .returned (.agg #[.int .i64 K, .int .i64 N, .string S]) ∧ Below W.heap.size W w') :
    Calls Tryd.prog 131 #[.string s] w fun e w' => e = .returned (ansV (valB K N S && decide (textV K N S = s)) K N S) ∧ Below w.heap.size w w' := by
  have HTab := hide ht
  have HL := hide hL
  clear ht hL
  go_enter Tryd.func131, Tryd.ntmps131
  go_wp2_with fail
  refine (HL.out _ ((Below.refl w.heap.size w).alloc (Nat.le_refl _) _)).mono ?_
  rintro e w1 ⟨rfl, hb1⟩
  have HR := hide (box_below (box_new w (.int .i64 0) (.int .i64 0) (.string ⟨#[]⟩) 30) hb1 (by simp))
  have hB1 : Below w.heap.size w w1 := ((Below.refl w.heap.size w).alloc (Nat.le_refl _) _).trans (hb1.mono (by simp))
  have hz1 : w.heap.size + 1 ≤ w1.heap.size := by have := hb1.size; simp at this; omega
  clear hb1 HL
  go_wp2_with fail
  refine (implValOk_any K N S _ hs).mono ?_
  rintro e w2 ⟨rfl, hb2⟩
  have HV := hide (box_below (box_new w1 (.int .i64 K) (.int .i64 N) (.string S) 30) hb2 (by simp))
  have HR2 := hide (box_below (box_old HR.out (by omega) (.cells #[.int .i64 K, .int .i64 N, .string S] 30)) hb2 (by simp; omega))
  have hB2 : Below w.heap.size w w2 := (hB1.alloc hB1.size _).trans (hb2.mono (by have := hB1.size; simp; omega))
  have hz2 : w1.heap.size + 1 ≤ w2.heap.size := by have := hb2.size; simp at this; omega
  clear hb2 HR hB1
  cases hv : valB K N S
  · have HB := hide hv
    clear hv
    obtain ⟨c0, c1, c2, f0, f1, f2⟩ := box_cell HR2.out
    go_wp2
    refine box_post HR2.out (fun w4 h4 gr => ?_)
    clear c0 c1 c2 f0 f1 f2
    obtain ⟨c0, c1, c2, -, -, -⟩ := box_cell h4
    exact bodyPost_ret (v := .tuple #[.agg #[.int .i64 0, .int .i64 0, .string ⟨#[]⟩], .bool false]) (by simp [results, Tryd.results131, go_sem, c0, c1, c2]) rfl ⟨by rw [HB.out]; rfl, below_set hB2 gr (by omega)⟩
  · have HB := hide hv
    clear hv
    obtain ⟨d0, d1, d2, -, -, -⟩ := box_cell HV.out
    go_wp2_with fail
    refine (implValText_any K N S _ hs (HTab.out.later hB2 (Nat.le_refl _))).mono ?_
    rintro e w3 ⟨rfl, hb3⟩
    have HV3 := hide (box_below HV.out hb3 (by omega))
    have HR3 := hide (box_below HR2.out hb3 (by omega))
    have hB3 : Below w.heap.size w w3 := hB2.trans (hb3.mono hB2.size)
    clear hb3 HV HR2 hB2 d0 d1 d2
    generalize hT : textV K N S = tx
    have HT := hide hT
    clear hT
    obtain ⟨c0, c1, c2, f0, f1, f2⟩ := box_cell HR3.out
    obtain ⟨d0, d1, d2, -, -, -⟩ := box_cell HV3.out
    by_cases hx : tx = s
    · have e1 := (bytes_beq_iff tx s).2 hx
      have HX := hide hx
      clear hx
      go_wp2
      refine box_post HR3.out (fun w4 h4 gr => ?_)
      clear c0 c1 c2 f0 f1 f2 d0 d1 d2
      obtain ⟨c0, c1, c2, -, -, -⟩ := box_cell h4
      exact bodyPost_ret (v := .tuple #[.agg #[.int .i64 K, .int .i64 N, .string S], .bool true]) (by simp [results, Tryd.results131, go_sem, c0, c1, c2]) rfl ⟨by rw [HB.out, HT.out, decide_eq_true HX.out]; rfl, below_set hB3 gr (by omega)⟩
    · have e1 := (bytes_beq_false_iff tx s).2 hx
      have HX := hide hx
      clear hx
      go_wp2
      refine box_post HR3.out (fun w4 h4 gr => ?_)
      clear c0 c1 c2 f0 f1 f2 d0 d1 d2
      obtain ⟨c0, c1, c2, -, -, -⟩ := box_cell h4
      exact bodyPost_ret (v := .tuple #[.agg #[.int .i64 0, .int .i64 0, .string ⟨#[]⟩], .bool false]) (by simp [results, Tryd.results131, go_sem, c0, c1, c2]) rfl ⟨by rw [HB.out, HT.out, decide_eq_false HX.out]; rfl, below_set hB3 gr (by omega)⟩
end Go.Proofs.YtlaoiagpoomldabDoor
/-
  What the model's ParseVal answers, by the text's form: between two quotes, behind a minus, else.
-/
namespace Go.Proofs.YtlaoiagpoomldabDoor
open Go.RowKit Go.Lib
set_option linter.unusedVariables false

theorem below_al2 (w : World) (o : Obj) : Below w.heap.size w (w.alloc o) := (Below.refl _ _).alloc (Nat.le_refl _) _
theorem below_none {w w' : World} (h : w.grownBy w' none) : Below w.heap.size w w' := (Below.refl _ _).grown h (Nat.le_refl _) (fun k hk => by cases hk)

set_option maxRecDepth 100000 in
set_option maxHeartbeats 1600000 in
theorem specParse_quote (s : ByteArray) (w : World) (hs : s.size ≤ 1048576) (h1 : (1 : Int) < s.size) (h0 : (((s[0]'(by omega)).toNat : Int) == 39) = true) (h2 : (((s[s.size - 1]'(by omega)).toNat : Int) == 39) = true) :
    Calls Tryd.prog 81 #[.string s] w fun e w' => e = .returned (ansV (valB 2 0 (s.extract 1 (s.size - 1))) 2 0 (s.extract 1 (s.size - 1))) ∧ Below w.heap.size w w' := by
  go_enter Tryd.func81, Tryd.ntmps81
  go_wp2_with fail
  have hsz : (s.extract 1 (s.size - 1)).size ≤ maxLen := by rw [ByteArray.size_extract]; unfold maxLen; omega
  generalize hS : s.extract 1 (s.size - 1) = S at hsz ⊢
  have HS := hide hS
  clear hS h0 h2
  refine (specValOk_any 2 0 S _ hsz).mono ?_
  rintro e w1 ⟨rfl, g1⟩
  have hb := below_none g1
  have HR := hide (box_below (box_old (box_new w (.int .i64 0) (.int .i64 0) (.string ⟨#[]⟩) 30) (by simp) (.cells #[.int .i64 2, .int .i64 0, .string S] 30)) hb (by simp; omega))
  have HV := hide (box_below (box_new (w.alloc (.cells #[.int .i64 0, .int .i64 0, .string ⟨#[]⟩] 30)) (.int .i64 2) (.int .i64 0) (.string S) 30) hb (by simp))
  simp only [World.size_alloc] at HR HV
  have hB : Below w.heap.size w w1 := ((below_al2 w _).alloc (by simp) _).trans (hb.mono (by simp; omega))
  clear hb g1
  obtain ⟨c0, c1, c2, f0, f1, f2⟩ := box_cell HR.out
  obtain ⟨d0, d1, d2, -, -, -⟩ := box_cell HV.out
  cases hv : valB 2 0 S
  · have HB := hide hv
    clear hv
    go_wp2
    refine box_post HR.out (fun w4 h4 gr => ?_)
    clear c0 c1 c2 f0 f1 f2 d0 d1 d2
    obtain ⟨c0, c1, c2, -, -, -⟩ := box_cell h4
    exact bodyPost_ret (v := .tuple #[.agg #[.int .i64 0, .int .i64 0, .string ⟨#[]⟩], .bool false]) (by simp [results, Tryd.results81, go_sem, c0, c1, c2]) rfl ⟨by rw [HS.out]; rw [HB.out]; rfl, below_set hB gr (by omega)⟩
  · have HB := hide hv
    clear hv
    go_wp2
    refine box_post HR.out (fun w4 h4 gr => ?_)
    clear c0 c1 c2 f0 f1 f2 d0 d1 d2
    obtain ⟨c0, c1, c2, -, -, -⟩ := box_cell h4
    exact bodyPost_ret (v := .tuple #[.agg #[.int .i64 2, .int .i64 0, .string S], .bool true]) (by simp [results, Tryd.results81, go_sem, c0, c1, c2]) rfl ⟨by rw [HS.out]; rw [HB.out]; rfl, below_set hB gr (by omega)⟩

theorem decFrom_lt : ∀ (l : List UInt8) (acc u : Nat), decFrom acc l = some u → u < (acc + 1) * 10 ^ l.length
  | [], acc, u, h => by simp [decFrom] at h; subst h; simp
  | c :: r, acc, u, h => by
    simp only [decFrom] at h
    cases hd : digitVal c with
    | none => rw [hd] at h; simp at h
    | some d =>
      rw [hd] at h
      have h10 := (digitVal_some hd).2
      have ih := decFrom_lt r (acc * 10 + d) u h
      refine Nat.lt_of_lt_of_le ih ?_
      rw [List.length_cons, Nat.pow_succ, Nat.mul_comm (10 ^ r.length) 10, ← Nat.mul_assoc]
      exact Nat.mul_le_mul_right _ (by omega)
theorem wholeL_bd (l : List UInt8) : -1 ≤ wholeL l ∧ wholeL l < 10000000000 := by
  unfold wholeL
  split
  · omega
  · rename_i hc
    have hlen : l.length ≤ 10 := by omega
    cases hd : decFrom 0 l with
    | none => simp only []; omega
    | some u =>
      have := decFrom_lt l 0 u hd
      have h2 : 10 ^ l.length ≤ 10 ^ 10 := Nat.pow_le_pow_right (by omega) hlen
      simp only []
      omega
/-- the answer, of a number or none -/
def ansN : Option Int → Value
  | some n => ansV true 1 n ⟨#[]⟩
  | none => ansV false 1 0 ⟨#[]⟩
theorem numV_minus {l : List UInt8} {m : Int} (h1 : 1 < l.length) (h0 : l.head? = some 45) (hm : wholeL l.tail = m) : numV l = if 0 ≤ -m then none else if numOk (-m) then some (-m) else none := by
  unfold numV; rw [if_pos ⟨h1, h0⟩, hm]
theorem numV_plain {l : List UInt8} {m : Int} (h1 : ¬ (1 < l.length ∧ l.head? = some 45)) (hm : wholeL l = m) : numV l = if m < 0 then none else if numOk m then some m else none := by
  unfold numV; rw [if_neg h1, hm]
theorem ansN_of {n : Int} {o : Option Int} (h : o = if numOk n then some n else none) : ansV (valB 1 n ⟨#[]⟩) 1 n ⟨#[]⟩ = ansN o := by
  rw [valB_whole, h]
  cases numOk n <;> rfl
theorem head_of {s : ByteArray} (h : 0 < s.size) : s.data.toList.head? = some (s[0]'h) := by
  have hl : s.data.toList.length = s.size := by rw [Array.length_toList]; rfl
  rw [List.head?_eq_getElem?, List.getElem?_eq_getElem (by omega)]
  simp [ByteArray.getElem_eq_getElem_data]
theorem tail_of (s : ByteArray) : (s.extract 1 s.size).data.toList = s.data.toList.tail := by
  have hl : s.data.toList.length = s.size := by rw [Array.length_toList]; rfl
  rw [ByteArray.data_extract, Array.toList_extract, List.extract_eq_take_drop, List.take_of_length_le (by simp), List.drop_one]

set_option maxRecDepth 100000 in
set_option maxHeartbeats 1600000 in
theorem specParse_minus (s : ByteArray) (w : World) (hs : s.size ≤ 1048576) (h1 : (1 : Int) < s.size) (h0 : (((s[0]'(by omega)).toNat : Int) == 39) = false) (h2 : (((s[0]'(by omega)).toNat : Int) == 45) = true) (hnum : ∀ m, wholeL (s.extract 1 s.size).data.toList = m → numV s.data.toList = if 0 ≤ -m then none else if numOk (-m) then some (-m) else none) :
    Calls Tryd.prog 81 #[.string s] w fun e w' => e = .returned (ansN (numV s.data.toList)) ∧ Below w.heap.size w w' := by
  have HNum := hide hnum
  clear hnum
  go_enter Tryd.func81, Tryd.ntmps81
  go_wp2_with fail
  have hsz : (s.extract 1 s.size).size ≤ maxLen := by unfold maxLen; first | omega | (rw [ByteArray.size_extract]; omega)
  refine (l2Whole_any (s.extract 1 s.size) _ hsz).mono ?_
  rintro e w' ⟨rfl, rfl⟩
  have hbd := wholeL_bd (s.extract 1 s.size).data.toList
  generalize hm : wholeL (s.extract 1 s.size).data.toList = m at hbd ⊢
  have HN0 := hide (HNum.out m hm)
  clear HNum hm hsz
  obtain ⟨hl, hu⟩ := hbd
  by_cases hneg : 0 ≤ -m
  · have HN : Hid (numV s.data.toList = none) := HN0.out.trans (if_pos hneg)
    clear HN0
    go_wp2
    go_returns
    exact ⟨by rw [HN.out]; rfl, by go_grown⟩
  · have HN := hide (ansN_of (HN0.out.trans (if_neg hneg)))
    clear HN0
    go_wp2_with fail
    have HR0 := hide (show (((w.alloc (.cells #[.int .i64 0, .int .i64 0, .string ⟨#[]⟩] 30)).alloc (.cells #[.int .i64 1, .int .i64 (-m), .string ⟨#[]⟩] 30)).heap[w.heap.size]? = some (.cells #[.int .i64 0, .int .i64 0, .string ⟨#[]⟩] 30 (0, 0))) by
      exact box_old (box_new w _ _ _ _) (by simp) _)
    have HV0 := hide (show (((w.alloc (.cells #[.int .i64 0, .int .i64 0, .string ⟨#[]⟩] 30)).alloc (.cells #[.int .i64 1, .int .i64 (-m), .string ⟨#[]⟩] 30)).heap[w.heap.size + 1]? = some (.cells #[.int .i64 1, .int .i64 (-m), .string ⟨#[]⟩] 30 (0, 0))) by
      have := box_new (w.alloc (.cells #[.int .i64 0, .int .i64 0, .string ⟨#[]⟩] 30)) (.int .i64 1) (.int .i64 (-m)) (.string ⟨#[]⟩) 30
      rw [World.size_alloc] at this
      exact this)
    have hB0 : Below w.heap.size w ((w.alloc (.cells #[.int .i64 0, .int .i64 0, .string ⟨#[]⟩] 30)).alloc (.cells #[.int .i64 1, .int .i64 (-m), .string ⟨#[]⟩] 30)) := (below_al2 w _).alloc (by simp) _
    have hz0 : w.heap.size + 2 ≤ ((w.alloc (.cells #[.int .i64 0, .int .i64 0, .string ⟨#[]⟩] 30)).alloc (.cells #[.int .i64 1, .int .i64 (-m), .string ⟨#[]⟩] 30)).heap.size := by simp
    generalize (w.alloc (.cells #[.int .i64 0, .int .i64 0, .string ⟨#[]⟩] 30)).alloc (.cells #[.int .i64 1, .int .i64 (-m), .string ⟨#[]⟩] 30) = w0 at HR0 HV0 hB0 hz0 ⊢
    refine (specValOk_any 1 (-m) ⟨#[]⟩ _ (by unfold maxLen; decide)).mono ?_
    rintro e w1 ⟨rfl, g1⟩
    have hb := below_none g1
    have HR := hide (box_below (q := w.heap.size) HR0.out hb (by omega))
    have HV := hide (box_below (q := w.heap.size + 1) HV0.out hb (by omega))
    have hB : Below w.heap.size w w1 := hB0.trans (hb.mono hB0.size)
    clear hb g1 HR0 HV0 hB0
    obtain ⟨c0, c1, c2, f0, f1, f2⟩ := box_cell HR.out
    obtain ⟨d0, d1, d2, -, -, -⟩ := box_cell HV.out
    cases hv : valB 1 (-m) ⟨#[]⟩
    · rw [hv] at HN
      clear hv
      go_wp2
      refine box_post HR.out (fun w4 h4 gr => ?_)
      clear c0 c1 c2 f0 f1 f2 d0 d1 d2
      obtain ⟨c0, c1, c2, -, -, -⟩ := box_cell h4
      exact bodyPost_ret (v := .tuple #[.agg #[.int .i64 0, .int .i64 0, .string ⟨#[]⟩], .bool false]) (by simp [results, Tryd.results81, go_sem, c0, c1, c2]) rfl ⟨by rw [← HN.out]; rfl, below_set hB gr (by omega)⟩
    · rw [hv] at HN
      clear hv
      go_wp2
      refine box_post HR.out (fun w4 h4 gr => ?_)
      clear c0 c1 c2 f0 f1 f2 d0 d1 d2
      obtain ⟨c0, c1, c2, -, -, -⟩ := box_cell h4
      exact bodyPost_ret (v := .tuple #[.agg #[.int .i64 1, .int .i64 (-m), .string ⟨#[]⟩], .bool true]) (by simp [results, Tryd.results81, go_sem, c0, c1, c2]) rfl ⟨by rw [← HN.out]; rfl, below_set hB gr (by omega)⟩

set_option maxRecDepth 100000 in
set_option maxHeartbeats 1600000 in
theorem specParse_short (s : ByteArray) (w : World) (hs : s.size ≤ 1048576) (h1 : ¬ (1 : Int) < s.size) (hnum : ∀ m, wholeL s.data.toList = m → numV s.data.toList = if m < 0 then none else if numOk m then some m else none) :
    Calls Tryd.prog 81 #[.string s] w fun e w' => e = .returned (ansN (numV s.data.toList)) ∧ Below w.heap.size w w' := by
  have HNum := hide hnum
  clear hnum
  go_enter Tryd.func81, Tryd.ntmps81
  go_wp2_with fail
  have hsz : (s).size ≤ maxLen := by unfold maxLen; first | omega | (rw [ByteArray.size_extract]; omega)
  refine (l2Whole_any (s) _ hsz).mono ?_
  rintro e w' ⟨rfl, rfl⟩
  have hbd := wholeL_bd (s).data.toList
  generalize hm : wholeL (s).data.toList = m at hbd ⊢
  have HN0 := hide (HNum.out m hm)
  clear HNum hm hsz
  obtain ⟨hl, hu⟩ := hbd
  by_cases hneg : m < 0
  · have HN : Hid (numV s.data.toList = none) := HN0.out.trans (if_pos hneg)
    clear HN0
    go_wp2
    go_returns
    exact ⟨by rw [HN.out]; rfl, by go_grown⟩
  · have HN := hide (ansN_of (HN0.out.trans (if_neg hneg)))
    clear HN0
    go_wp2_with fail
    have HR0 := hide (show (((w.alloc (.cells #[.int .i64 0, .int .i64 0, .string ⟨#[]⟩] 30)).alloc (.cells #[.int .i64 1, .int .i64 (m), .string ⟨#[]⟩] 30)).heap[w.heap.size]? = some (.cells #[.int .i64 0, .int .i64 0, .string ⟨#[]⟩] 30 (0, 0))) by
      exact box_old (box_new w _ _ _ _) (by simp) _)
    have HV0 := hide (show (((w.alloc (.cells #[.int .i64 0, .int .i64 0, .string ⟨#[]⟩] 30)).alloc (.cells #[.int .i64 1, .int .i64 (m), .string ⟨#[]⟩] 30)).heap[w.heap.size + 1]? = some (.cells #[.int .i64 1, .int .i64 (m), .string ⟨#[]⟩] 30 (0, 0))) by
      have := box_new (w.alloc (.cells #[.int .i64 0, .int .i64 0, .string ⟨#[]⟩] 30)) (.int .i64 1) (.int .i64 (m)) (.string ⟨#[]⟩) 30
      rw [World.size_alloc] at this
      exact this)
    have hB0 : Below w.heap.size w ((w.alloc (.cells #[.int .i64 0, .int .i64 0, .string ⟨#[]⟩] 30)).alloc (.cells #[.int .i64 1, .int .i64 (m), .string ⟨#[]⟩] 30)) := (below_al2 w _).alloc (by simp) _
    have hz0 : w.heap.size + 2 ≤ ((w.alloc (.cells #[.int .i64 0, .int .i64 0, .string ⟨#[]⟩] 30)).alloc (.cells #[.int .i64 1, .int .i64 (m), .string ⟨#[]⟩] 30)).heap.size := by simp
    generalize (w.alloc (.cells #[.int .i64 0, .int .i64 0, .string ⟨#[]⟩] 30)).alloc (.cells #[.int .i64 1, .int .i64 (m), .string ⟨#[]⟩] 30) = w0 at HR0 HV0 hB0 hz0 ⊢
    refine (specValOk_any 1 (m) ⟨#[]⟩ _ (by unfold maxLen; decide)).mono ?_
    rintro e w1 ⟨rfl, g1⟩
    have hb := below_none g1
    have HR := hide (box_below (q := w.heap.size) HR0.out hb (by omega))
    have HV := hide (box_below (q := w.heap.size + 1) HV0.out hb (by omega))
    have hB : Below w.heap.size w w1 := hB0.trans (hb.mono hB0.size)
    clear hb g1 HR0 HV0 hB0
    obtain ⟨c0, c1, c2, f0, f1, f2⟩ := box_cell HR.out
    obtain ⟨d0, d1, d2, -, -, -⟩ := box_cell HV.out
    cases hv : valB 1 (m) ⟨#[]⟩
    · rw [hv] at HN
      clear hv
      go_wp2
      refine box_post HR.out (fun w4 h4 gr => ?_)
      clear c0 c1 c2 f0 f1 f2 d0 d1 d2
      obtain ⟨c0, c1, c2, -, -, -⟩ := box_cell h4
      exact bodyPost_ret (v := .tuple #[.agg #[.int .i64 0, .int .i64 0, .string ⟨#[]⟩], .bool false]) (by simp [results, Tryd.results81, go_sem, c0, c1, c2]) rfl ⟨by rw [← HN.out]; rfl, below_set hB gr (by omega)⟩
    · rw [hv] at HN
      clear hv
      go_wp2
      refine box_post HR.out (fun w4 h4 gr => ?_)
      clear c0 c1 c2 f0 f1 f2 d0 d1 d2
      obtain ⟨c0, c1, c2, -, -, -⟩ := box_cell h4
      exact bodyPost_ret (v := .tuple #[.agg #[.int .i64 1, .int .i64 (m), .string ⟨#[]⟩], .bool true]) (by simp [results, Tryd.results81, go_sem, c0, c1, c2]) rfl ⟨by rw [← HN.out]; rfl, below_set hB gr (by omega)⟩

set_option maxRecDepth 100000 in
set_option maxHeartbeats 1600000 in
theorem specParse_half (s : ByteArray) (w : World) (hs : s.size ≤ 1048576) (h1 : (1 : Int) < s.size) (h0 : (((s[0]'(by omega)).toNat : Int) == 39) = true) (h2 : (((s[s.size - 1]'(by omega)).toNat : Int) == 39) = false) (h3 : (((s[0]'(by omega)).toNat : Int) == 45) = false) (hnum : ∀ m, wholeL s.data.toList = m → numV s.data.toList = if m < 0 then none else if numOk m then some m else none) :
    Calls Tryd.prog 81 #[.string s] w fun e w' => e = .returned (ansN (numV s.data.toList)) ∧ Below w.heap.size w w' := by
  have HNum := hide hnum
  clear hnum
  go_enter Tryd.func81, Tryd.ntmps81
  go_wp2_with fail
  have hsz : (s).size ≤ maxLen := by unfold maxLen; first | omega | (rw [ByteArray.size_extract]; omega)
  refine (l2Whole_any (s) _ hsz).mono ?_
  rintro e w' ⟨rfl, rfl⟩
  have hbd := wholeL_bd (s).data.toList
  generalize hm : wholeL (s).data.toList = m at hbd ⊢
  have HN0 := hide (HNum.out m hm)
  clear HNum hm hsz
  obtain ⟨hl, hu⟩ := hbd
  by_cases hneg : m < 0
  · have HN : Hid (numV s.data.toList = none) := HN0.out.trans (if_pos hneg)
    clear HN0
    go_wp2
    go_returns
    exact ⟨by rw [HN.out]; rfl, by go_grown⟩
  · have HN := hide (ansN_of (HN0.out.trans (if_neg hneg)))
    clear HN0
    go_wp2_with fail
    have HR0 := hide (show (((w.alloc (.cells #[.int .i64 0, .int .i64 0, .string ⟨#[]⟩] 30)).alloc (.cells #[.int .i64 1, .int .i64 (m), .string ⟨#[]⟩] 30)).heap[w.heap.size]? = some (.cells #[.int .i64 0, .int .i64 0, .string ⟨#[]⟩] 30 (0, 0))) by
      exact box_old (box_new w _ _ _ _) (by simp) _)
    have HV0 := hide (show (((w.alloc (.cells #[.int .i64 0, .int .i64 0, .string ⟨#[]⟩] 30)).alloc (.cells #[.int .i64 1, .int .i64 (m), .string ⟨#[]⟩] 30)).heap[w.heap.size + 1]? = some (.cells #[.int .i64 1, .int .i64 (m), .string ⟨#[]⟩] 30 (0, 0))) by
      have := box_new (w.alloc (.cells #[.int .i64 0, .int .i64 0, .string ⟨#[]⟩] 30)) (.int .i64 1) (.int .i64 (m)) (.string ⟨#[]⟩) 30
      rw [World.size_alloc] at this
      exact this)
    have hB0 : Below w.heap.size w ((w.alloc (.cells #[.int .i64 0, .int .i64 0, .string ⟨#[]⟩] 30)).alloc (.cells #[.int .i64 1, .int .i64 (m), .string ⟨#[]⟩] 30)) := (below_al2 w _).alloc (by simp) _
    have hz0 : w.heap.size + 2 ≤ ((w.alloc (.cells #[.int .i64 0, .int .i64 0, .string ⟨#[]⟩] 30)).alloc (.cells #[.int .i64 1, .int .i64 (m), .string ⟨#[]⟩] 30)).heap.size := by simp
    generalize (w.alloc (.cells #[.int .i64 0, .int .i64 0, .string ⟨#[]⟩] 30)).alloc (.cells #[.int .i64 1, .int .i64 (m), .string ⟨#[]⟩] 30) = w0 at HR0 HV0 hB0 hz0 ⊢
    refine (specValOk_any 1 (m) ⟨#[]⟩ _ (by unfold maxLen; decide)).mono ?_
    rintro e w1 ⟨rfl, g1⟩
    have hb := below_none g1
    have HR := hide (box_below (q := w.heap.size) HR0.out hb (by omega))
    have HV := hide (box_below (q := w.heap.size + 1) HV0.out hb (by omega))
    have hB : Below w.heap.size w w1 := hB0.trans (hb.mono hB0.size)
    clear hb g1 HR0 HV0 hB0
    obtain ⟨c0, c1, c2, f0, f1, f2⟩ := box_cell HR.out
    obtain ⟨d0, d1, d2, -, -, -⟩ := box_cell HV.out
    cases hv : valB 1 (m) ⟨#[]⟩
    · rw [hv] at HN
      clear hv
      go_wp2
      refine box_post HR.out (fun w4 h4 gr => ?_)
      clear c0 c1 c2 f0 f1 f2 d0 d1 d2
      obtain ⟨c0, c1, c2, -, -, -⟩ := box_cell h4
      exact bodyPost_ret (v := .tuple #[.agg #[.int .i64 0, .int .i64 0, .string ⟨#[]⟩], .bool false]) (by simp [results, Tryd.results81, go_sem, c0, c1, c2]) rfl ⟨by rw [← HN.out]; rfl, below_set hB gr (by omega)⟩
    · rw [hv] at HN
      clear hv
      go_wp2
      refine box_post HR.out (fun w4 h4 gr => ?_)
      clear c0 c1 c2 f0 f1 f2 d0 d1 d2
      obtain ⟨c0, c1, c2, -, -, -⟩ := box_cell h4
      exact bodyPost_ret (v := .tuple #[.agg #[.int .i64 1, .int .i64 (m), .string ⟨#[]⟩], .bool true]) (by simp [results, Tryd.results81, go_sem, c0, c1, c2]) rfl ⟨by rw [← HN.out]; rfl, below_set hB gr (by omega)⟩

set_option maxRecDepth 100000 in
set_option maxHeartbeats 1600000 in
theorem specParse_plain (s : ByteArray) (w : World) (hs : s.size ≤ 1048576) (h1 : (1 : Int) < s.size) (h0 : (((s[0]'(by omega)).toNat : Int) == 39) = false) (h3 : (((s[0]'(by omega)).toNat : Int) == 45) = false) (hnum : ∀ m, wholeL s.data.toList = m → numV s.data.toList = if m < 0 then none else if numOk m then some m else none) :
    Calls Tryd.prog 81 #[.string s] w fun e w' => e = .returned (ansN (numV s.data.toList)) ∧ Below w.heap.size w w' := by
  have HNum := hide hnum
  clear hnum
  go_enter Tryd.func81, Tryd.ntmps81
  go_wp2_with fail
  have hsz : (s).size ≤ maxLen := by unfold maxLen; first | omega | (rw [ByteArray.size_extract]; omega)
  refine (l2Whole_any (s) _ hsz).mono ?_
  rintro e w' ⟨rfl, rfl⟩
  have hbd := wholeL_bd (s).data.toList
  generalize hm : wholeL (s).data.toList = m at hbd ⊢
  have HN0 := hide (HNum.out m hm)
  clear HNum hm hsz
  obtain ⟨hl, hu⟩ := hbd
  by_cases hneg : m < 0
  · have HN : Hid (numV s.data.toList = none) := HN0.out.trans (if_pos hneg)
    clear HN0
    go_wp2
    go_returns
    exact ⟨by rw [HN.out]; rfl, by go_grown⟩
  · have HN := hide (ansN_of (HN0.out.trans (if_neg hneg)))
    clear HN0
    go_wp2_with fail
    have HR0 := hide (show (((w.alloc (.cells #[.int .i64 0, .int .i64 0, .string ⟨#[]⟩] 30)).alloc (.cells #[.int .i64 1, .int .i64 (m), .string ⟨#[]⟩] 30)).heap[w.heap.size]? = some (.cells #[.int .i64 0, .int .i64 0, .string ⟨#[]⟩] 30 (0, 0))) by
      exact box_old (box_new w _ _ _ _) (by simp) _)
    have HV0 := hide (show (((w.alloc (.cells #[.int .i64 0, .int .i64 0, .string ⟨#[]⟩] 30)).alloc (.cells #[.int .i64 1, .int .i64 (m), .string ⟨#[]⟩] 30)).heap[w.heap.size + 1]? = some (.cells #[.int .i64 1, .int .i64 (m), .string ⟨#[]⟩] 30 (0, 0))) by
      have := box_new (w.alloc (.cells #[.int .i64 0, .int .i64 0, .string ⟨#[]⟩] 30)) (.int .i64 1) (.int .i64 (m)) (.string ⟨#[]⟩) 30
      rw [World.size_alloc] at this
      exact this)
    have hB0 : Below w.heap.size w ((w.alloc (.cells #[.int .i64 0, .int .i64 0, .string ⟨#[]⟩] 30)).alloc (.cells #[.int .i64 1, .int .i64 (m), .string ⟨#[]⟩] 30)) := (below_al2 w _).alloc (by simp) _
    have hz0 : w.heap.size + 2 ≤ ((w.alloc (.cells #[.int .i64 0, .int .i64 0, .string ⟨#[]⟩] 30)).alloc (.cells #[.int .i64 1, .int .i64 (m), .string ⟨#[]⟩] 30)).heap.size := by simp
    generalize (w.alloc (.cells #[.int .i64 0, .int .i64 0, .string ⟨#[]⟩] 30)).alloc (.cells #[.int .i64 1, .int .i64 (m), .string ⟨#[]⟩] 30) = w0 at HR0 HV0 hB0 hz0 ⊢
    refine (specValOk_any 1 (m) ⟨#[]⟩ _ (by unfold maxLen; decide)).mono ?_
    rintro e w1 ⟨rfl, g1⟩
    have hb := below_none g1
    have HR := hide (box_below (q := w.heap.size) HR0.out hb (by omega))
    have HV := hide (box_below (q := w.heap.size + 1) HV0.out hb (by omega))
    have hB : Below w.heap.size w w1 := hB0.trans (hb.mono hB0.size)
    clear hb g1 HR0 HV0 hB0
    obtain ⟨c0, c1, c2, f0, f1, f2⟩ := box_cell HR.out
    obtain ⟨d0, d1, d2, -, -, -⟩ := box_cell HV.out
    cases hv : valB 1 (m) ⟨#[]⟩
    · rw [hv] at HN
      clear hv
      go_wp2
      refine box_post HR.out (fun w4 h4 gr => ?_)
      clear c0 c1 c2 f0 f1 f2 d0 d1 d2
      obtain ⟨c0, c1, c2, -, -, -⟩ := box_cell h4
      exact bodyPost_ret (v := .tuple #[.agg #[.int .i64 0, .int .i64 0, .string ⟨#[]⟩], .bool false]) (by simp [results, Tryd.results81, go_sem, c0, c1, c2]) rfl ⟨by rw [← HN.out]; rfl, below_set hB gr (by omega)⟩
    · rw [hv] at HN
      clear hv
      go_wp2
      refine box_post HR.out (fun w4 h4 gr => ?_)
      clear c0 c1 c2 f0 f1 f2 d0 d1 d2
      obtain ⟨c0, c1, c2, -, -, -⟩ := box_cell h4
      exact bodyPost_ret (v := .tuple #[.agg #[.int .i64 1, .int .i64 (m), .string ⟨#[]⟩], .bool true]) (by simp [results, Tryd.results81, go_sem, c0, c1, c2]) rfl ⟨by rw [← HN.out]; rfl, below_set hB gr (by omega)⟩
end Go.Proofs.YtlaoiagpoomldabDoor
/-
  What ParseVal answers, the tested one and the model's alike: parseO.
-/
namespace Go.Proofs.YtlaoiagpoomldabDoor
open Go.RowKit Go.Lib
set_option linter.unusedVariables false

def quotedB (s : ByteArray) : Bool := decide (2 ≤ s.size) && (bat s 0 == 39) && (bat s (s.size - 1) == 39)
/-- the value that a text is read as -/
def parseO (s : ByteArray) : Option V3 :=
  if quotedB s then (if valB 2 0 (s.extract 1 (s.size - 1)) then some ⟨2, 0, s.extract 1 (s.size - 1)⟩ else none)
  else (numV s.data.toList).map fun n => ⟨1, n, ⟨#[]⟩⟩
/-- the answer, as the call gives it -/
def ansO : Option V3 → Value
  | some v => .tuple #[.agg #[.int .i64 v.K, .int .i64 v.N, .string v.S], .bool true]
  | none => .tuple #[.agg #[.int .i64 0, .int .i64 0, .string ⟨#[]⟩], .bool false]
theorem ansV_f (K N : Int) (S : ByteArray) : ansV false K N S = ansO none := rfl
theorem ansV_t (K N : Int) (S : ByteArray) : ansV true K N S = ansO (some ⟨K, N, S⟩) := rfl
theorem parseO_q {s : ByteArray} (h : quotedB s = true) : ansO (parseO s) = ansV (valB 2 0 (s.extract 1 (s.size - 1))) 2 0 (s.extract 1 (s.size - 1)) := by
  unfold parseO; rw [if_pos h]
  cases valB 2 0 (s.extract 1 (s.size - 1)) <;> rfl
theorem parseO_n {s : ByteArray} (h : quotedB s = false) : ansO (parseO s) = ansN (numV s.data.toList) := by
  unfold parseO; rw [if_neg (by simp [h])]
  cases numV s.data.toList <;> rfl
theorem quotedB_iff {s : ByteArray} : quotedB s = true ↔ 2 ≤ s.size ∧ bat s 0 = 39 ∧ bat s (s.size - 1) = 39 := by
  simp [quotedB, and_assoc]

theorem specParse_any (s : ByteArray) (w : World) (hs : s.size ≤ 1048576) :
    Calls Tryd.prog 81 #[.string s] w fun e w' => e = .returned (ansO (parseO s)) ∧ Below w.heap.size w w' := by
  have hl : s.data.toList.length = s.size := by rw [Array.length_toList]; rfl
  by_cases h1 : 2 ≤ s.size
  · by_cases h0 : bat s 0 = 39
    · by_cases h2 : bat s (s.size - 1) = 39
      · rw [parseO_q (quotedB_iff.2 ⟨h1, h0, h2⟩)]
        rw [bat_in (by omega)] at h0 h2
        exact specParse_quote s w hs (by omega) (by simpa using h0) (by simpa using h2)
      · rw [parseO_n (Bool.eq_false_iff.2 (fun h => h2 (quotedB_iff.1 h).2.2))]
        rw [bat_in (by omega)] at h0 h2
        have hh : ¬ (1 < s.data.toList.length ∧ s.data.toList.head? = some 45) := by
          rintro ⟨_, h⟩
          rw [head_of (by omega), Option.some.injEq] at h
          rw [h] at h0; exact absurd h0 (by decide)
        exact specParse_half s w hs (by omega) (by simpa using h0) (by simpa using h2) (by simp; omega) (fun m hm => numV_plain hh hm)
    · rw [parseO_n (Bool.eq_false_iff.2 (fun h => h0 (quotedB_iff.1 h).2.1))]
      rw [bat_in (by omega)] at h0
      by_cases h3 : (s[0]'(by omega)) = 45
      · refine specParse_minus s w hs (by omega) (by simpa using h0) (by rw [h3]; rfl) (fun m hm => numV_minus (by omega) (by rw [head_of (by omega), h3]) (by rw [← tail_of]; exact hm))
      · have hh : ¬ (1 < s.data.toList.length ∧ s.data.toList.head? = some 45) := by
          rintro ⟨_, h⟩
          rw [head_of (by omega), Option.some.injEq] at h
          exact h3 h
        have h4 : ¬ (((s[0]'(by omega)).toNat : Int) = 45) := fun e => h3 (UInt8.toNat_inj.1 (by have : (45 : UInt8).toNat = 45 := rfl; omega))
        exact specParse_plain s w hs (by omega) (by simpa using h0) (by simpa using h4) (fun m hm => numV_plain hh hm)
  · rw [parseO_n (Bool.eq_false_iff.2 (fun h => h1 (quotedB_iff.1 h).1))]
    exact specParse_short s w hs (by omega) (fun m hm => numV_plain (by omega) hm)

theorem inner_of {s : ByteArray} (h1 : 2 ≤ s.size) (h0 : bat s 0 = 39) (h2 : bat s (s.size - 1) = 39) : (⟨#[39]⟩ ++ s.extract 1 (s.size - 1) ++ ⟨#[39]⟩ : ByteArray) = s := by
  have e : (s.extract 1 (s.size - 1)).size = s.size - 2 := by rw [ByteArray.size_extract]; omega
  have e1 : (⟨#[39]⟩ : ByteArray).size = 1 := rfl
  apply ByteArray.ext_getElem
  · simp only [ByteArray.size_append, e, e1]; omega
  · intro i hi hi'
    rw [bat_in (by omega)] at h0 h2
    have x0 : (s[0]'(by omega)) = 39 := UInt8.toNat_inj.1 (by have : (39 : UInt8).toNat = 39 := rfl; omega)
    have x2 : (s[s.size - 1]'(by omega)) = 39 := UInt8.toNat_inj.1 (by have : (39 : UInt8).toNat = 39 := rfl; omega)
    by_cases ha : i = 0
    · subst ha
      rw [ByteArray.getElem_append_left (by simp only [ByteArray.size_append, e, e1]; omega), ByteArray.getElem_append_left (by rw [e1]; omega), x0]; rfl
    · by_cases hb : i = s.size - 1
      · subst hb
        rw [ByteArray.getElem_append_right (by simp only [ByteArray.size_append, e, e1]; omega), x2]
        have : s.size - 1 - (⟨#[39]⟩ ++ s.extract 1 (s.size - 1) : ByteArray).size = 0 := by simp only [ByteArray.size_append, e, e1]; omega
        simp only [this]; rfl
      · rw [ByteArray.getElem_append_left (by simp only [ByteArray.size_append, e, e1]; omega), ByteArray.getElem_append_right (by rw [e1]; omega), ByteArray.getElem_extract]
        congr 1
        rw [e1]; omega
theorem inner_last {s S : ByteArray} (h : (⟨#[39]⟩ ++ S ++ ⟨#[39]⟩ : ByteArray) = s) : bat s (s.size - 1) = 39 := by
  subst h
  have e1 : (⟨#[39]⟩ : ByteArray).size = 1 := rfl
  rw [bat_in (by simp only [ByteArray.size_append, e1]; omega)]
  rw [ByteArray.getElem_append_right (by simp only [ByteArray.size_append, e1]; omega)]
  have : (⟨#[39]⟩ ++ S ++ ⟨#[39]⟩ : ByteArray).size - 1 - (⟨#[39]⟩ ++ S : ByteArray).size = 0 := by simp only [ByteArray.size_append, e1]; omega
  simp only [this]; rfl

theorem implParse_any (s : ByteArray) (w : World) (hs : s.size ≤ 1048576) (ht : Tab w) (he : Errs w) :
    Calls Tryd.prog 131 #[.string s] w fun e w' => e = .returned (ansO (parseO s)) ∧ Below w.heap.size w w' := by
  by_cases h1 : 2 ≤ s.size ∧ bat s 0 = 39
  · obtain ⟨h1, h0⟩ := h1
    have hsz : (s.extract 1 (s.size - 1)).size ≤ maxLen := by rw [ByteArray.size_extract]; unfold maxLen; omega
    have h0' := h0
    rw [bat_in (by omega)] at h0'
    have := implParse_of s 2 0 (s.extract 1 (s.size - 1)) w hsz ht (fun W hW => looseVal_quote s W hs h1 h0')
    by_cases h2 : bat s (s.size - 1) = 39
    · rw [parseO_q (quotedB_iff.2 ⟨h1, h0, h2⟩)]
      cases hv : valB 2 0 (s.extract 1 (s.size - 1))
      · rw [hv] at this; exact this
      · rw [hv, textV_text hv (by decide), decide_eq_true (inner_of h1 h0 h2)] at this
        exact this
    · rw [parseO_n (Bool.eq_false_iff.2 (fun h => h2 (quotedB_iff.1 h).2.2))]
      have hn : numV s.data.toList = none := by
        have hd := head_of (s := s) (by omega)
        cases hl : s.data.toList with
        | nil => rw [hl] at hd; simp at hd
        | cons c r =>
          rw [hl] at hd
          simp only [List.head?_cons, Option.some.injEq] at hd
          exact numV_head (by rw [hd]; omega)
      rw [hn]
      cases hv : valB 2 0 (s.extract 1 (s.size - 1))
      · rw [hv] at this; exact this
      · rw [hv, textV_text hv (by decide), decide_eq_false (fun e => h2 (inner_last e))] at this
        exact this
  · rw [parseO_n (Bool.eq_false_iff.2 (fun h => h1 ⟨(quotedB_iff.1 h).1, (quotedB_iff.1 h).2.1⟩))]
    have h2 : s.size < 2 ∨ bat s 0 ≠ 39 := by
      by_cases h : s.size < 2
      · exact .inl h
      · exact .inr (fun e => h1 ⟨by omega, e⟩)
    have hz : (ByteArray.mk #[]).size ≤ maxLen := by unfold maxLen; decide
    by_cases hn : ∃ n, atoiAll s.data.toList = .ok n
    · obtain ⟨n, hn⟩ := hn
      have := implParse_of s 1 n ⟨#[]⟩ w hz ht (fun W hW => looseVal_ok s W n hs h2 hn)
      have hk := loose_ok hn
      cases hv : numV s.data.toList with
      | none =>
        have : (valB 1 n ⟨#[]⟩ && decide (textV 1 n ⟨#[]⟩ = s)) = false := by
          rw [Bool.eq_false_iff]; intro h
          rw [Bool.and_eq_true, decide_eq_true_iff] at h
          rw [hk.1 h] at hv; cases hv
        rename_i h'
        rw [this] at h'; exact h'
      | some m =>
        obtain rfl := loose_only hn hv
        have h3 := hk.2 hv
        rw [h3.1, decide_eq_true h3.2] at this
        exact this
    · have hn' : ∀ n, atoiAll s.data.toList ≠ .ok n := fun n h => hn ⟨n, h⟩
      have := implParse_of s 0 0 ⟨#[]⟩ w hz ht (fun W hW => looseVal_no s W hs h2 (he.later hW (Nat.le_refl _)) hn')
      rw [loose_none hn']
      rw [valB_zero] at this
      exact this
end Go.Proofs.YtlaoiagpoomldabDoor
/-
  Values come back of their bytes and of their texts, plainly.
-/
namespace Go.Proofs.YtlaoiagpoomldabDoor
open Go.RowKit Go.Lib
set_option linter.unusedVariables false

theorem clamp_id {n : Int} (h : -1000000000 ≤ n ∧ n ≤ 1000000000) : clampN n = n := by unfold clampN; rw [if_neg (by omega), if_neg (by omega)]
theorem valB_one {N : Int} {S : ByteArray} (h : valB 1 N S = true) : (-1000000000 ≤ N ∧ N ≤ 1000000000) ∧ S = ⟨#[]⟩ := by
  by_cases hN : -1000000000 ≤ N ∧ N ≤ 1000000000
  · rw [valB_num S hN, decide_eq_true_iff] at h
    exact ⟨hN, empty_of_size h⟩
  · rw [valB_out S hN] at h; cases h
theorem valB_two {K N : Int} {S : ByteArray} (h : valB K N S = true) (hk : K ≠ 1) : K = 2 ∧ N = 0 ∧ S.size ≤ 20 := by
  by_cases h2 : K = 2
  · subst h2
    rw [valB_text, Bool.and_eq_true] at h
    exact ⟨rfl, by simpa using h.2, textB_le h.1⟩
  · rw [valB_none N S hk h2] at h; cases h

/-- a value that was put comes back, whatever stands ahead -/
theorem val_back (bs : List UInt8) (K N : Int) (S : ByteArray) (h : valB K N S = true) :
    valR (bs ++ encV K N S) (bs.length : Int) = (K, N, S, ((bs ++ encV K N S).length : Int), true) := by
  by_cases hk : K = 1
  · subst hk
    obtain ⟨hN, rfl⟩ := valB_one h
    rw [encV_num]
    have h1 := num_back bs (encN N) 1
    rw [clamp_id (by omega), List.append_assoc] at h1
    have h2 := num_back (bs ++ encN 1) [] N
    rw [clamp_id hN, List.append_nil, List.append_assoc] at h2
    rw [valR_num h1 h2, h]
    rfl
  · obtain ⟨rfl, rfl, hS⟩ := valB_two h hk
    rw [encV_text _ _ (by decide)]
    have h1 := num_back bs (encT S) 2
    rw [clamp_id (by omega), List.append_assoc] at h1
    have h2 := encT_back (bs ++ encN 2) S (by omega)
    rw [show (bs ++ encN 2 ++ (encN S.size ++ S.data.toList)) = bs ++ (encN 2 ++ encT S) by rw [List.append_assoc]; rfl] at h2
    rw [valR_text h1 (by decide) h2, h]
    rfl

theorem parse_back (K N : Int) (S : ByteArray) (h : valB K N S = true) : parseO (textV K N S) = some ⟨K, N, S⟩ := by
  by_cases hk : K = 1
  · subst hk
    obtain ⟨hN, rfl⟩ := valB_one h
    have hn := numV_itoa (n := N) (numOk_iff.2 hN)
    rw [textV_num h]
    have hq : quotedB ⟨(itoa N).toArray⟩ = false := by
      rw [Bool.eq_false_iff]
      intro hq
      obtain ⟨h1, h0, -⟩ := quotedB_iff.1 hq
      cases hl : itoa N with
      | nil => rw [hl] at h1; exact absurd h1 (by decide)
      | cons c r =>
        rw [hl] at hn h0
        rw [bat_in (by show 0 < (c :: r).toArray.size; simp)] at h0
        have hc : c.toNat = 39 := by
          have : ((ByteArray.mk (c :: r).toArray)[0]'(by show 0 < (c :: r).toArray.size; simp)) = c := by simp [ByteArray.getElem_eq_getElem_data]
          rw [this] at h0; omega
        rw [numV_head hc] at hn; cases hn
    unfold parseO
    rw [if_neg (by simp [hq])]
    show (numV ((itoa N).toArray).toList).map _ = _
    rw [List.toList_toArray, hn]; rfl
  · obtain ⟨rfl, rfl, hS⟩ := valB_two h hk
    rw [textV_text h hk]
    have e1 : (⟨#[39]⟩ : ByteArray).size = 1 := rfl
    have hsz : (⟨#[39]⟩ ++ S ++ ⟨#[39]⟩ : ByteArray).size = S.size + 2 := by simp only [ByteArray.size_append, e1]; omega
    have hq : quotedB (⟨#[39]⟩ ++ S ++ ⟨#[39]⟩) = true := by
      refine quotedB_iff.2 ⟨by omega, ?_, inner_last rfl⟩
      rw [bat_in (by omega), ByteArray.getElem_append_left (by simp only [ByteArray.size_append, e1]; omega), ByteArray.getElem_append_left (by rw [e1]; omega)]; rfl
    have hi : (⟨#[39]⟩ ++ S ++ ⟨#[39]⟩ : ByteArray).extract 1 ((⟨#[39]⟩ ++ S ++ ⟨#[39]⟩ : ByteArray).size - 1) = S := by
      apply ByteArray.ext_getElem
      · rw [ByteArray.size_extract, hsz]; omega
      · intro i hi hi'
        rw [ByteArray.getElem_extract, ByteArray.getElem_append_left (by simp only [ByteArray.size_append, e1]; omega), ByteArray.getElem_append_right (by rw [e1]; omega)]
        congr 1
        rw [e1]; omega
    unfold parseO
    rw [if_pos hq, hi, h]; rfl
theorem textV_size {K N : Int} {S : ByteArray} (h : valB K N S = true) : (textV K N S).size ≤ 22 := by
  by_cases hk : K = 1
  · subst hk
    obtain ⟨hN, rfl⟩ := valB_one h
    rw [textV_num h]
    show (itoa N).toArray.size ≤ 22
    simp only [List.size_toArray]
    by_cases hn : N < 0
    · rw [itoa_neg hn]; have := nDigits_10 N.natAbs (by omega); simp only [List.length_cons]; rw [decDigits_length]; omega
    · rw [itoa_pos hn]; have := nDigits_10 N.toNat (by omega); rw [decDigits_length]; omega
  · obtain ⟨rfl, rfl, hS⟩ := valB_two h hk
    rw [textV_text h hk]
    have e1 : (⟨#[39]⟩ : ByteArray).size = 1 := rfl
    simp only [ByteArray.size_append, e1]; omega
end Go.Proofs.YtlaoiagpoomldabDoor
/-
  Plainly: the text of a fact that is right tells the fact: which bytes are in it, and that two such facts with one text are one.
-/
namespace Go.Proofs.YtlaoiagpoomldabDoor
open Go.RowKit
set_option linter.unusedVariables false

/-- a byte of a value's text: a word's, a quote or a sign -/
def txB (c : UInt8) : Prop := c ≠ 44 ∧ c ≠ 40 ∧ c ≠ 41
theorem dec_bytes : ∀ (n u : Nat), u ≤ n → ∀ c ∈ Lib.decDigits u, 48 ≤ c.toNat ∧ c.toNat ≤ 57
  | 0, u, h, c, hc => by
    obtain rfl : u = 0 := by omega
    rw [Lib.decDigits_one (by omega)] at hc
    simp at hc; subst hc; decide
  | n + 1, u, h, c, hc => by
    by_cases hu : u < 10
    · rw [Lib.decDigits_one hu] at hc
      simp only [List.mem_cons, List.not_mem_nil, or_false] at hc
      subst hc
      have : (UInt8.ofNat (48 + u)).toNat = 48 + u := by simp; omega
      omega
    · rw [Lib.decDigits, dif_neg hu] at hc
      rcases List.mem_append.1 hc with h1 | h1
      · exact dec_bytes n (u / 10) (by omega) c h1
      · simp only [List.mem_cons, List.not_mem_nil, or_false] at h1
        subst h1
        have : (UInt8.ofNat (48 + u % 10)).toNat = 48 + u % 10 := by simp; omega
        omega
theorem u8_ne {c : UInt8} {k : Nat} (hk : k < 256) (h : c.toNat ≠ k) : c ≠ UInt8.ofNat k := by
  intro e; apply h; rw [e]; simp; omega
theorem itoa_bytes (n : Int) : ∀ c ∈ Lib.itoa n, txB c := by
  intro c hc
  have k : ∀ u, c ∈ Lib.decDigits u → txB c := fun u h => by
    have := dec_bytes u u (Nat.le_refl _) c h
    exact ⟨u8_ne (k := 44) (by omega) (by omega), u8_ne (k := 40) (by omega) (by omega), u8_ne (k := 41) (by omega) (by omega)⟩
  unfold Lib.itoa at hc
  split at hc
  · rcases List.mem_cons.1 hc with rfl | h
    · exact ⟨by decide, by decide, by decide⟩
    · exact k _ h
  · exact k _ hc
theorem itoa_ne (n : Int) : Lib.itoa n ≠ [] := by
  unfold Lib.itoa; split
  · simp
  · exact decDigits_ne _
theorem word_byte {c : UInt8} (h : wordB (c.toNat : Int) = true) : txB c := by
  have h2 : c.toNat ≠ 44 ∧ c.toNat ≠ 40 ∧ c.toNat ≠ 41 := by
    unfold wordB inB at h
    simp only [Bool.or_eq_true, Bool.and_eq_true, decide_eq_true_eq, beq_iff_eq] at h
    omega
  exact ⟨u8_ne (k := 44) (by omega) h2.1, u8_ne (k := 40) (by omega) h2.2.1, u8_ne (k := 41) (by omega) h2.2.2⟩
theorem bat_mem {s : ByteArray} {p : Int → Bool} (h : ∀ i, i < s.size → p (bat s i) = true) : ∀ c ∈ s.data.toList, p (c.toNat : Int) = true := by
  intro c hc
  obtain ⟨i, hi, rfl⟩ := List.getElem_of_mem hc
  have hi2 : i < s.size := by rw [Array.length_toList] at hi; exact hi
  have := h i hi2
  rw [bat_in hi2] at this
  exact this
theorem textB_bytes {s : ByteArray} (h : textB s = true) : ∀ c ∈ s.data.toList, wordB (c.toNat : Int) = true := by
  refine bat_mem (p := wordB) (fun i hi => ?_)
  unfold textB at h
  rw [Bool.and_eq_true] at h
  exact List.all_eq_true.1 h.1 i (by simpa using hi)
theorem nameB_bytes {s : ByteArray} (h : nameB s = true) : ∀ c ∈ s.data.toList, txB c := by
  intro c hc
  refine word_byte (bat_mem (p := wordB) (fun i hi => ?_) c hc)
  unfold nameB at h
  rw [Bool.and_eq_true] at h
  have := List.all_eq_true.1 h.1 i (by simpa using hi)
  unfold headB at this
  rw [Bool.and_eq_true] at this
  exact this.1
theorem tx_bytes {v : V3} (h : v.ok = true) : (∀ c ∈ v.tx.data.toList, txB c) ∧ v.tx.data.toList ≠ [] := by
  obtain ⟨K, N, S⟩ := v
  have h' : valB K N S = true := h
  show (∀ c ∈ (textV K N S).data.toList, txB c) ∧ (textV K N S).data.toList ≠ []
  by_cases hk : K = 1
  · subst hk
    rw [textV_num h']
    exact ⟨by simpa using itoa_bytes N, by simpa using itoa_ne N⟩
  · rw [textV_text h' hk]
    have ht : textB S = true := by
      unfold valB at h'
      rw [Bool.or_eq_true] at h'
      rcases h' with h1 | h1
      · simp only [Bool.and_eq_true, beq_iff_eq] at h1; exact absurd h1.1.1 hk
      · simp only [Bool.and_eq_true] at h1; exact h1.1.2
    refine ⟨fun c hc => ?_, by simp⟩
    have hc2 : c = 39 ∨ c ∈ S.data.toList := by
      have : c ∈ [39] ++ S.data.toList ++ [39] := by simpa using hc
      simp only [List.mem_append, List.mem_cons, List.not_mem_nil, or_false] at this
      rcases this with (h | h) | h
      · exact .inl h
      · exact .inr h
      · exact .inl h
    rcases hc2 with rfl | hc2
    · exact ⟨by decide, by decide, by decide⟩
    · exact word_byte (textB_bytes ht c hc2)
theorem tx_inj {v u : V3} (h : v.ok = true) (h' : u.ok = true) (e : v.tx = u.tx) : v = u := by
  have p1 := parse_back v.K v.N v.S h
  have p2 := parse_back u.K u.N u.S h'
  have : textV v.K v.N v.S = textV u.K u.N u.S := e
  rw [this, p2] at p1
  simp only [Option.some.injEq, V3.mk.injEq] at p1
  exact V3.ext' p1.1.symm p1.2.1.symm p1.2.2.symm

/-- what stands ahead of the first such byte is told by the whole -/
theorem cut_inj {s : UInt8} : ∀ {a b x y : List UInt8}, s ∉ a → s ∉ b → a ++ s :: x = b ++ s :: y → a = b ∧ x = y
  | [], [], x, y, _, _, e => by simp at e; exact ⟨rfl, e⟩
  | [], c :: b, x, y, _, hb, e => by simp at e; exact absurd (by simp [e.1]) hb
  | c :: a, [], x, y, ha, _, e => by simp at e; exact absurd (by simp [e.1]) ha
  | c :: a, d :: b, x, y, ha, hb, e => by
    simp at e ha hb
    obtain ⟨h1, h2⟩ := cut_inj ha.2 hb.2 e.2
    exact ⟨by rw [e.1, h1], h2⟩
theorem inter_cons (s : UInt8) (p q : List UInt8) (t : List (List UInt8)) : List.intercalate [s] (p :: q :: t) = p ++ (s :: List.intercalate [s] (q :: t)) := by simp [List.intercalate, List.intersperse]
theorem inter_one (s : UInt8) (p : List UInt8) : List.intercalate [s] [p] = p := by simp [List.intercalate]
theorem inter_inj {s : UInt8} : ∀ {A B : List (List UInt8)}, (∀ a ∈ A, s ∉ a) → (∀ b ∈ B, s ∉ b) → A ≠ [] → B ≠ [] → List.intercalate [s] A = List.intercalate [s] B → A = B
  | [a], [b], _, _, _, _, e => by rw [inter_one, inter_one] at e; rw [e]
  | [a], b :: c :: B, ha, hb, _, _, e => by
    rw [inter_one, inter_cons] at e
    exact absurd (by rw [e]; simp) (ha a (by simp))
  | a :: c :: A, [b], ha, hb, _, _, e => by
    rw [inter_one, inter_cons] at e
    exact absurd (by rw [← e]; simp) (hb b (by simp))
  | a :: c :: A, b :: d :: B, ha, hb, _, _, e => by
    rw [inter_cons, inter_cons] at e
    obtain ⟨h1, h2⟩ := cut_inj (ha a (by simp)) (hb b (by simp)) e
    have := inter_inj (A := c :: A) (B := d :: B) (fun x hx => ha x (List.mem_cons_of_mem _ hx)) (fun x hx => hb x (List.mem_cons_of_mem _ hx)) (by simp) (by simp) h2
    rw [h1, this]
theorem map_tx_inj : ∀ {L M : List V3}, (∀ v ∈ L, v.ok = true) → (∀ v ∈ M, v.ok = true) → (L.map fun v => v.tx.data.toList) = (M.map fun v => v.tx.data.toList) → L = M
  | [], [], _, _, _ => rfl
  | [], _ :: _, _, _, e => by simp at e
  | _ :: _, [], _, _, e => by simp at e
  | a :: L, b :: M, hL, hM, e => by
    simp only [List.map_cons, List.cons.injEq] at e
    have h1 : a.tx = b.tx := ByteArray.ext (Array.toList_inj.1 e.1)
    rw [tx_inj (hL a (by simp)) (hM b (by simp)) h1, map_tx_inj (fun x hx => hL x (List.mem_cons_of_mem _ hx)) (fun x hx => hM x (List.mem_cons_of_mem _ hx)) e.2]
theorem joinV_inj {L M : List V3} (hL : ∀ v ∈ L, v.ok = true) (hM : ∀ v ∈ M, v.ok = true) (e : joinV L = joinV M) : L = M := by
  have key : ∀ {A : List V3}, (∀ v ∈ A, v.ok = true) → joinV A = [] → A = [] := fun {A} hA h => by
    cases A with
    | nil => rfl
    | cons a A =>
      exfalso
      have hne := (tx_bytes (hA a (by simp))).2
      unfold joinV Lib.join at h
      cases A with
      | nil => rw [List.map_cons, List.map_nil, inter_one] at h; exact hne h
      | cons b A => rw [List.map_cons, List.map_cons, inter_cons] at h; simp at h
  cases L with
  | nil => exact (key hM (by rw [← e]; rfl)).symm
  | cons a L =>
    cases M with
    | nil => exact key hL (by rw [e]; rfl)
    | cons b M =>
      apply map_tx_inj hL hM
      unfold joinV Lib.join at e
      refine inter_inj (s := 44) ?_ ?_ (by simp) (by simp) e
      · intro x hx hc
        obtain ⟨v, hv, rfl⟩ := List.mem_map.1 hx
        exact ((tx_bytes (hL v hv)).1 44 hc).1 rfl
      · intro x hx hc
        obtain ⟨v, hv, rfl⟩ := List.mem_map.1 hx
        exact ((tx_bytes (hM v hv)).1 44 hc).1 rfl
theorem factT_list {kd : ByteArray} {L : List V3} (h : factB kd L = true) : (factT kd L).data.toList = kd.data.toList ++ 40 :: (joinV L ++ [41]) := by
  rw [factT_yes h]; simp
theorem factT_inj {kd kd' : ByteArray} {L M : List V3} (h : factB kd L = true) (h' : factB kd' M = true) (e : factT kd L = factT kd' M) : kd = kd' ∧ L = M := by
  have e2 : (factT kd L).data.toList = (factT kd' M).data.toList := by rw [e]
  rw [factT_list h, factT_list h'] at e2
  obtain ⟨n1, -, o1⟩ := factB_open h
  obtain ⟨n2, -, o2⟩ := factB_open h'
  obtain ⟨h1, h2⟩ := cut_inj (s := 40) (fun hc => (nameB_bytes n1 40 hc).2.1 rfl) (fun hc => (nameB_bytes n2 40 hc).2.1 rfl) e2
  exact ⟨ByteArray.ext (Array.toList_inj.1 h1), joinV_inj o1 o2 (List.append_cancel_right h2)⟩
theorem sameF_text {kd kd' : ByteArray} {L M : List V3} (h : factB kd L = true) (h' : factB kd' M = true) : sameF kd L kd' M = decide (factT kd L = factT kd' M) := by
  rw [Bool.eq_iff_iff, decide_eq_true_iff]
  unfold sameF
  rw [Bool.and_eq_true, decide_eq_true_iff, decide_eq_true_iff]
  constructor
  · rintro ⟨rfl, rfl⟩; rfl
  · exact factT_inj h h'
end Go.Proofs.YtlaoiagpoomldabDoor
/-
  What the tested function answers for a fact's text: factT.
-/
namespace Go.Proofs.YtlaoiagpoomldabDoor
open Go.RowKit
set_option linter.unusedVariables false

theorem infoS : (Tryd.prog.info? 9).map (fun i => (i.zero, i.size, i.bytes)) = some (some (.string ⟨#[]⟩), 1, 16) := by kernel_rfl
/-- the cells of the texts -/
def cellsT (L : List V3) : List Value := L.map fun v => .string v.tx
theorem cellsT_snoc (L : List V3) (v : V3) : cellsT L ++ [.string v.tx] = cellsT (L ++ [v]) := by simp [cellsT]

def txs (L : List V3) : List ByteArray := L.map V3.tx
theorem txs_join (L : List V3) : Lib.join ((txs L).map (·.data.toList)) (ByteArray.mk #[44]).data.toList = joinV L := by
  unfold txs joinV
  rw [List.map_map]
  rfl
theorem own_txs {W : World} {base g c n : Nat} {L : List V3} (h : W.ownsRow base 9 1 (.slice (some ⟨g, 0, none⟩) n c) n (cellsT L)) :
    ∀ (j : Nat) x, (txs L)[j]? = some x → W.cell? ⟨g, 0 + j, none⟩ = some (.string x) := by
  intro j x hj
  have := h.cells (g := g) rfl j (.string x) (by unfold txs at hj; unfold cellsT; rw [List.getElem?_map] at hj ⊢; cases hq : L[j]? with
    | none => rw [hq] at hj; cases hj
    | some v => rw [hq] at hj; simp at hj ⊢; exact hj)
  rwa [Addr.add_lit] at this
theorem own_lt {W : World} {base g c n : Nat} {T : TypeId} {xs : List Value} (h : W.ownsRow base T 1 (.slice (some ⟨g, 0, none⟩) n c) n xs) : g < W.heap.size ∧ n ≤ c := by
  refine ⟨(h.lt g rfl).2, ?_⟩
  rcases h.2 with ⟨h1, _⟩ | ⟨g', cap', cur, h1, hb', hh, hnc, _⟩
  · simp at h1
  · simp only [Value.slice.injEq] at h1; omega
theorem keepJ {w0 W w' : World} {B g : Nat} {p0 : Addr} {v0 : Value} {xs : List ByteArray} (hb : Below W.heap.size W w')
    (h : W.cell? p0 = some v0 ∧ (∀ (j : Nat) x, xs[j]? = some x → W.cell? ⟨g, 0 + j, none⟩ = some (.string x)) ∧ g < W.heap.size ∧ Below B w0 W ∧ B ≤ W.heap.size) :
    w'.cell? p0 = some v0 ∧ (∀ (j : Nat) x, xs[j]? = some x → w'.cell? ⟨g, 0 + j, none⟩ = some (.string x)) ∧ g < w'.heap.size ∧ Below B w0 w' ∧ B ≤ w'.heap.size := by
  obtain ⟨h0, h1, h2, h3, h4⟩ := h
  have k : ∀ {a : Addr} {v : Value}, W.cell? a = some v → w'.cell? a = some v := fun {a v} h => by rw [hb.cell (World.block_lt_of_cell? W _ h)]; exact h
  exact ⟨k h0, fun j x hj => k (h1 j x hj), Nat.lt_of_lt_of_le h2 hb.size, h3.trans (hb.mono h4), Nat.le_trans h4 hb.size⟩
theorem joinC {w0 W : World} {B g : Nat} {p0 : Addr} {v0 : Value} {xs : List ByteArray}
    (h : W.cell? p0 = some v0 ∧ (∀ (j : Nat) x, xs[j]? = some x → W.cell? ⟨g, 0 + j, none⟩ = some (.string x)) ∧ g < W.heap.size ∧ Below B w0 W ∧ B ≤ W.heap.size) : ∀ (j : Nat) x, xs[j]? = some x → W.cell? ⟨g, 0 + j, none⟩ = some (.string x) := h.2.1
theorem joinL {w0 W : World} {B g : Nat} {p0 : Addr} {v0 : Value} {xs : List ByteArray}
    (h : W.cell? p0 = some v0 ∧ (∀ (j : Nat) x, xs[j]? = some x → W.cell? ⟨g, 0 + j, none⟩ = some (.string x)) ∧ g < W.heap.size ∧ Below B w0 W ∧ B ≤ W.heap.size) : g < W.heap.size := h.2.2.1
theorem belT {w0 W : World} {B : Nat} {p0 p1 : Addr} {v0 v1 : Value} {a : Option Addr} {L : List V3}
    (h : W.cell? p0 = some v0 ∧ W.cell? p1 = some v1 ∧ RdV W a L ∧ Below B w0 W ∧ B ≤ W.heap.size) : Below B w0 W := h.2.2.2.1
theorem ret_str {a b : ByteArray} (h : a = b) : Ending.returned (.string a) = .returned (.string b) := by rw [h]
theorem src1 (W : World) (x : ByteArray) : ∀ j u, ([.string x] : List Value)[j]? = some u → (W.alloc (.cells #[.string x] 9)).cell? ((⟨W.heap.size, 0, none⟩ : Addr).add j) = some u := by
  intro j u hj
  rw [Addr.add_lit, Nat.zero_add]
  have hb : (W.alloc (.cells #[.string x] 9)).heap[W.heap.size]? = some (.cells #[.string x] 9 (0, 0)) := by rw [heap_alloc_new]
  match j, hj with
  | 0, hj => rw [cell_of_row _ _ 0 _ _ (0, 0) hb]; simpa using hj
theorem one1 (x : ByteArray) : ∀ u ∈ ([.string x] : List Value), u.oneCell' = true := by
  intro u hu
  simp only [List.mem_cons, List.not_mem_nil, or_false] at hu
  rw [hu]; rfl

set_option maxRecDepth 100000 in
set_option maxHeartbeats 3200000 in
theorem joinVals_any (a : Option Addr) (cap : Nat) (L : List V3) (sep : ByteArray) (w : World) (hr : RdV w a L) (hs : ∀ v ∈ L, v.S.size ≤ maxLen) (hm : L.length ≤ 5) (ht : Tab w) (hlen : (Lib.join ((txs L).map (·.data.toList)) sep.data.toList).length ≤ 140737488355328) :
    Calls Tryd.prog 122 #[.slice a L.length cap, .func (.func 95) #[] #[], .string sep] w fun e w' =>
      e = .returned (.string ⟨(Lib.join ((txs L).map (·.data.toList)) sep.data.toList).toArray⟩) ∧ Below w.heap.size w w' := by
  obtain ⟨i0, hi, hz0, hz1, hz2⟩ := info_parts infoS
  have HTab := hide ht
  have HS := hide hs
  have HL := hide hlen
  clear ht hs hlen
  obtain ⟨n, hN⟩ : ∃ n, n = L.length := ⟨_, rfl⟩
  rw [← hN] at hm ⊢
  have HN := hide hN
  clear hN
  have hz3 : (i0.bytes * n) = 16 * n := by rw [hz2]
  go_enter Tryd.func122, Tryd.ntmps122
  go_wp2_with (at_make; refine wpList_make_own _ rfl _ _ 43 rfl w.heap.size 9 i0 (.string ⟨#[]⟩) 1 Tryd.underlying43 hi hz0 hz1 _ _ _ n rfl rfl (by omega) ?b2 ?b3 (Nat.le_refl _) ?_)
  case b2 => rw [hz2]; omega
  case b3 => unfold maxLen; omega
  intro w2 ho2 hg2
  have b2 : Below w.heap.size w w2 := below_gn hg2
  clear hg2
  go_wp2
  go_loopw [7, 15] (fun v i wr => ∃ (k g c : Nat), k ≤ n ∧ i = .int .i64 k ∧ v = .slice (some ⟨g, 0, none⟩) k c ∧ wr.ownsRow w.heap.size 9 1 (.slice (some ⟨g, 0, none⟩) k c) k (cellsT (L.take k)) ∧ Below w.heap.size w wr) (fun _ i _ => n - (intOf i).toNat)
  case atStart => exact ⟨0, w.heap.size, n, Nat.zero_le _, rfl, rfl, by rw [List.take_zero]; exact ho2, b2⟩
  case round =>
    clear ho2 b2
    obtain ⟨k, g, c, hk, rfl, rfl, hown, hbel⟩ := hrel
    by_cases hlt : k < n
    · obtain ⟨b, off, hab, hbw, hc⟩ := hr.open (by rw [← HN.out]; omega)
      obtain ⟨c0, c1, c2⟩ := hc k (by rw [← HN.out]; exact hlt)
      clear hc
      subst hab
      rw [← hbel.cell (p := ⟨b, off + k * 3, none⟩) hbw] at c0
      rw [← hbel.cell (p := ⟨b, off + k * 3 + 1, none⟩) hbw] at c1
      rw [← hbel.cell (p := ⟨b, off + k * 3 + 2, none⟩) hbw] at c2
      have HTake : Hid (cellsT (L.take k) ++ [.string (vAt L k).tx] = cellsT (L.take (k + 1))) := by unfold Hid; rw [cellsT_snoc, List.take_succ_eq_append_getElem (by rw [← HN.out]; exact hlt), vAt_in]
      have hS : (vAt L k).S.size ≤ maxLen := by rw [vAt_in (by rw [← HN.out]; exact hlt)]; exact HS.out _ (List.getElem_mem _)
      rw [show (vAt L k).tx = textV (vAt L k).K (vAt L k).N (vAt L k).S from rfl] at HTake
      generalize (vAt L k).K = K at c0 HTake hS
      generalize (vAt L k).N = N at c1 HTake hS
      generalize (vAt L k).S = S at c2 HTake hS
      have bA : Below w.heap.size w (wr.alloc (.cells #[.int .i64 K, .int .i64 N, .string S] 30)) := hbel.alloc hbel.size _
      have hoA := hown.alloc (.cells #[.int .i64 K, .int .i64 N, .string S] 30)
      have HTA : Hid (Tab (wr.alloc (.cells #[.int .i64 K, .int .i64 N, .string S] 30))) := HTab.out.later bA (Nat.le_refl _)
      go_wp2_with fail
      refine (implValText_any K N S _ hS HTA.out).mono ?_
      rintro e w3 ⟨rfl, hb3⟩
      generalize textV K N S = x at HTake
      have bel3 : Below w.heap.size w w3 := bA.trans (hb3.mono bA.size)
      have HO4 := hide ((ownsRow_below hoA hb3).alloc (.cells #[.string x] 9))
      have HB4 := hide (bel3.alloc bel3.size (.cells #[.string x] 9))
      have HSrc := hide (src1 w3 x)
      clear hb3 hbel hown hoA bA HTA c0 c1 c2 bel3
      go_wp2_with (at_builtin; refine wpList_append_lies _ rfl (.tmp 19) (.tmp 23) 43 rfl w.heap.size 9 i0 (.string ⟨#[]⟩) 1 16 Tryd.underlying43 hi hz0 hz1 hz2 rfl (by omega) (.slice (some ⟨g, 0, none⟩) k c) k (cellsT (L.take k)) rfl HO4.out ⟨w3.heap.size, 0, none⟩ 1 1 [.string x] ?hx rfl HSrc.out (one1 x) (by omega) (by unfold maxLen; omega) (by omega) HB4.out.size _ rfl ?_)
      case hx => simp [Act.eval]
      intro g5 c5 w5 ho5 hg5 hat5 hlt5
      have HO5 : Hid (w5.ownsRow w.heap.size 9 1 (.slice (some ⟨g5, 0, none⟩) (k + 1) c5) (k + 1) (cellsT (L.take (k + 1)))) := by
        unfold Hid
        rw [← HTake.out]
        exact ho5
      have HB5 := hide (HB4.out.grown hg5 HB4.out.size (fun k hk => (HO4.out.lt k hk).1))
      clear ho5 hg5 hat5 hlt5 HO4 HSrc HB4
      go_wp2
      go_roundw
      case rel => exact ⟨k + 1, g5, c5, by omega, by go_num, rfl, HO5.out, HB5.out⟩
      case measure => simp [intOf]; omega
    · obtain rfl : k = n := by omega
      have HO : Hid (wr.ownsRow w.heap.size 9 1 (.slice (some ⟨g, 0, none⟩) k c) k (cellsT L)) := by
        have := hown
        rw [HN.out, List.take_length, ← HN.out] at this
        exact this
      have hcs := own_txs HO.out
      obtain ⟨hgl, hkc⟩ := own_lt HO.out
      have htl : (txs L).length = k := by unfold txs; rw [List.length_map, HN.out]
      have hjoin := Tryd.strings_Join g 0 c (txs L) sep wr hcs hgl (by rw [htl]; omega) (by rw [htl]; exact hkc) HL.out
      rw [htl] at hjoin
      clear hown HO
      go_wp2_with fail
      refine hjoin.mono ?_
      rintro e w6 ⟨rfl, hb6⟩
      have B6 : Below w.heap.size w w6 := hbel.trans (hb6.mono hbel.size)
      go_wp2
      go_ret
      exact ⟨rfl, B6⟩

set_option maxRecDepth 100000 in
set_option maxHeartbeats 3200000 in
theorem implFactText_any (kd : ByteArray) (a : Option Addr) (cap : Nat) (L : List V3) (w : World) (hkd : kd.size ≤ maxLen) (hr : RdV w a L) (hs : ∀ v ∈ L, v.S.size ≤ maxLen) (hm : L.length ≤ 1048580) (ht : Tab w) :
    Calls Tryd.prog 69 #[.agg #[.string kd, .slice a L.length cap]] w fun e w' =>
      e = .returned (.string (factT kd L)) ∧ Below w.heap.size w w' := by
  have HTab := hide ht
  have HS := hide hs
  have b0 := below_al w (.cells #[.string kd, .slice a L.length cap] 55)
  have hX := box2_new w (.string kd) (.slice a L.length cap) 55
  clear ht
  go_enter Tryd.func69, Tryd.ntmps69
  go_wp2_with fail
  refine (implFactOk_any kd a cap L _ hkd (hr.below b0) hs hm).mono ?_
  rintro e w1 ⟨rfl, hb1⟩
  have HX := hide (box_below hX hb1 (by simp))
  have hB1 : Below w.heap.size w w1 := b0.trans (hb1.mono b0.size)
  clear hb1 b0 hX hs
  cases hv : factB kd L
  · have HV := hide (factT_no hv)
    clear hv
    go_wp2
    go_ret
    exact ⟨by rw [HV.out]; rfl, hB1⟩
  · obtain ⟨hn, h5, hok⟩ := factB_open hv
    have HV := hide (factT_yes hv)
    have hkn := name_size hn
    have hjn := joinV_le hok
    clear hv hok hn hm
    have HJ := hide (fun W (h : RdV W a L) (h2 : Below w.heap.size w W) => joinVals_any a cap L ⟨#[44]⟩ W h HS.out h5 (HTab.out.later h2 (Nat.le_refl _)) (by rw [txs_join]; omega))
    rw [txs_join] at HJ
    obtain ⟨y, hy⟩ : ∃ y, y = (⟨(joinV L).toArray⟩ : ByteArray) := ⟨_, rfl⟩
    have hys : y.size ≤ 115 := by
      rw [hy]
      show (joinV L).toArray.size ≤ 115
      simp only [List.size_toArray]
      omega
    rw [← hy] at HJ HV
    have r1 := hr.below hB1
    obtain ⟨x0, x1, -, -⟩ := box2_cell HX.out
    have z1 := hB1.size
    clear hjn hy HX hr
    have n0 : ¬ 9223372036854775807 < kd.size + 1 := by omega
    have m0 : kd.size + 1 ≤ 9223372036854775807 := by omega
    have n1 : ¬ 9223372036854775807 < kd.size + 1 + y.size := by omega
    have m1 : kd.size + 1 + y.size ≤ 9223372036854775807 := by omega
    have n2 : ¬ 9223372036854775807 < kd.size + 1 + y.size + 1 := by omega
    have m2 : kd.size + 1 + y.size + 1 ≤ 9223372036854775807 := by omega
    have n4 : ¬ 9223372036854775807 ≤ kd.size := by omega
    have m4 : kd.size < 9223372036854775807 := by omega
    have n5 : ¬ 9223372036854775807 ≤ kd.size + 1 + y.size := by omega
    have m5 : kd.size + 1 + y.size < 9223372036854775807 := by omega
    go_wp2_with fail
    go_region_held3 (fun W => W.cell? ⟨w.heap.size, 0, none⟩ = some (.string kd) ∧ W.cell? ⟨w.heap.size, 1, none⟩ = some (.slice a L.length cap) ∧ RdV W a L ∧ Below w.heap.size w W ∧ w.heap.size ≤ W.heap.size) (first | exact ⟨x0, x1, r1.heap rfl, hB1.drew, z1⟩ | exact keepT (by assumption) (by assumption))
      (first | (go_at_call 122; refine (HJ.out _ (rdT (by assumption)) (belT (by assumption))).mono ?_; rintro e w6 ⟨rfl, hb6⟩))
    all_goals
      obtain ⟨-, -, -, hB6, -⟩ : w6.cell? ⟨w.heap.size, 0, none⟩ = some (.string kd) ∧ w6.cell? ⟨w.heap.size, 1, none⟩ = some (.slice a L.length cap) ∧ RdV w6 a L ∧ Below w.heap.size w w6 ∧ w.heap.size ≤ w6.heap.size := by assumption
      go_wp2
      go_ret
      exact ⟨ret_str (by rw [HV.out]; simp only [ByteArray.append_assoc]), hB6⟩
end Go.Proofs.YtlaoiagpoomldabDoor
/-
  Four cells in memory, and whatever else is kept where all that was there is.
-/
namespace Go.Proofs.YtlaoiagpoomldabDoor
open Go.RowKit
set_option linter.unusedVariables false

theorem keep4 {P : World → Prop} {W w' : World} {p0 p1 p2 p3 : Addr} {v0 v1 v2 v3 : Value} (hP : ∀ {W W' : World}, P W → Below W.heap.size W W' → P W') (hb : Below W.heap.size W w')
    (h : W.cell? p0 = some v0 ∧ W.cell? p1 = some v1 ∧ W.cell? p2 = some v2 ∧ W.cell? p3 = some v3 ∧ P W) :
    w'.cell? p0 = some v0 ∧ w'.cell? p1 = some v1 ∧ w'.cell? p2 = some v2 ∧ w'.cell? p3 = some v3 ∧ P w' := by
  obtain ⟨h0, h1, h2, h3, h4⟩ := h
  have k : ∀ {a : Addr} {v : Value}, W.cell? a = some v → w'.cell? a = some v := fun {a v} h => by rw [hb.cell (World.block_lt_of_cell? W _ h)]; exact h
  exact ⟨k h0, k h1, k h2, k h3, hP h4 hb⟩
theorem kept0 {W w' : World} {p : Addr} {v : Value} (hb : Below W.heap.size W w') (h : W.cell? p = some v) : w'.cell? p = some v := by rw [hb.cell (World.block_lt_of_cell? W _ h)]; exact h

/-- a store and a fact as they came in, and all that was there at the head -/
structure SF (w : World) (a b : Option Addr) (J : List It) (M : List V3) (W : World) : Prop where
  rdI : RdI W a J
  rdV : RdV W b M
  bel : Below w.heap.size w W
theorem SF.keep {w W W' : World} {a b : Option Addr} {J : List It} {M : List V3} (h : SF w a b J M W) (hb : Below W.heap.size W W') : SF w a b J M W' :=
  ⟨h.rdI.below hb, h.rdV.below hb, h.bel.trans (hb.mono h.bel.size)⟩
theorem SF.drew {w W : World} {a b : Option Addr} {J : List It} {M : List V3} (h : SF w a b J M W) : SF w a b J M W.drew := h.keep ((Below.refl _ _).drew)
theorem SF.rdi {w W : World} {a b : Option Addr} {J : List It} {M : List V3} {p0 p1 p2 p3 : Addr} {v0 v1 v2 v3 : Value} (h : W.cell? p0 = some v0 ∧ W.cell? p1 = some v1 ∧ W.cell? p2 = some v2 ∧ W.cell? p3 = some v3 ∧ SF w a b J M W) : RdI W a J := h.2.2.2.2.rdI
theorem SF.rdv {w W : World} {a b : Option Addr} {J : List It} {M : List V3} {p0 p1 p2 p3 : Addr} {v0 v1 v2 v3 : Value} (h : W.cell? p0 = some v0 ∧ W.cell? p1 = some v1 ∧ W.cell? p2 = some v2 ∧ W.cell? p3 = some v3 ∧ SF w a b J M W) : RdV W b M := h.2.2.2.2.rdV
/-- a store as it came in, its copy, and all that was there at the head -/
structure SC (w : World) (a : Option Addr) (lo g cp : Nat) (J K : List It) (W : World) : Prop where
  rdI : RdI W a J
  copy : HoldsI W lo g cp K
  bel : Below w.heap.size w W
theorem SC.keep {w W W' : World} {a : Option Addr} {lo g cp : Nat} {J K : List It} (h : SC w a lo g cp J K W) (hb : Below W.heap.size W W') : SC w a lo g cp J K W' :=
  ⟨h.rdI.below hb, h.copy.later hb, h.bel.trans (hb.mono h.bel.size)⟩
theorem SC.drew {w W : World} {a : Option Addr} {lo g cp : Nat} {J K : List It} (h : SC w a lo g cp J K W) : SC w a lo g cp J K W.drew := h.keep ((Below.refl _ _).drew)
theorem SC.rdi {w W : World} {a : Option Addr} {lo g cp : Nat} {J K : List It} {p0 p1 p2 p3 : Addr} {v0 v1 v2 v3 : Value} (h : W.cell? p0 = some v0 ∧ W.cell? p1 = some v1 ∧ W.cell? p2 = some v2 ∧ W.cell? p3 = some v3 ∧ SC w a lo g cp J K W) : RdI W a J := h.2.2.2.2.rdI
theorem SC.cp {w W : World} {a : Option Addr} {lo g cp : Nat} {J K : List It} {p0 p1 p2 p3 : Addr} {v0 v1 v2 v3 : Value} (h : W.cell? p0 = some v0 ∧ W.cell? p1 = some v1 ∧ W.cell? p2 = some v2 ∧ W.cell? p3 = some v3 ∧ SC w a lo g cp J K W) : RdI W (some ⟨g, 0, none⟩) K := h.2.2.2.2.copy.rd

end Go.Proofs.YtlaoiagpoomldabDoor
/-
  The tested program's map of items by their facts' texts: what it has, and how many.
-/
namespace Go.Proofs.YtlaoiagpoomldabDoor
open Go.RowKit
set_option linter.unusedVariables false

/-- an item in the map reads as its Id -/
def rI (v : Value) : Option (DataW Unit × List MemPlace) := match v with
  | .agg cs => match cs.toList with
    | [.int .i64 id, .string _, .slice _ _ _] => some (.lit (.int .i64 id), [])
    | _ => none
  | _ => none
theorem rI_mk (id : Int) (s : ByteArray) (a : Option Addr) (l c : Nat) : rI (.agg #[.int .i64 id, .string s, .slice a l c]) = some (.lit (.int .i64 id), []) := rfl
/-- what reads so is an item's three cells -/
theorem rI_inv {v : Value} {id : Int} {ps : List MemPlace} (h : rI v = some (.lit (.int .i64 id), ps)) : ∃ s a l c, v = .agg #[.int .i64 id, .string s, .slice a l c] := by
  unfold rI at h
  split at h
  · rename_i cs
    split at h
    · rename_i id' s a l c e
      simp only [Option.some.injEq, Prod.mk.injEq, DataW.lit.injEq, Lit.int.injEq] at h
      obtain ⟨⟨-, rfl⟩, -⟩ := h
      exact ⟨s, a, l, c, by rw [← Array.toList_inj.1 (show cs.toList = (#[.int .i64 _, .string s, .slice a l c] : Array Value).toList from e)]⟩
    · cases h
  · cases h
def It.tx (x : It) : List UInt8 := (factT x.kd x.L).data.toList
/-- no two texts of the first k are the same -/
def Texts (J : List It) (k : Nat) : Prop := ∀ i j, i < j → j < k → (iAt J i).tx ≠ (iAt J j).tx
structure MapOf (J : List It) (k : Nat) (D : DataW Unit) : Prop where
  has : ∀ l : List UInt8, Maps.has D (.string l) = true ↔ ∃ j, j < k ∧ (iAt J j).tx = l
  idAt : Texts J k → ∀ j, j < k → ∀ z, D.atKey (.string (iAt J j).tx) z = .lit (.int .i64 (iAt J j).id)
  le : Maps.size D ≤ k
  all : Maps.size D = k ↔ Texts J k
theorem MapOf.zero (J : List It) : MapOf J 0 (.map []) :=
  ⟨fun l => ⟨fun h => by simp [Maps.has] at h, fun ⟨j, hj, _⟩ => absurd hj (Nat.not_lt_zero _)⟩, fun _ j hj => absurd hj (Nat.not_lt_zero _), Nat.le_refl _, ⟨fun _ i j _ hj => absurd hj (Nat.not_lt_zero _), fun _ => rfl⟩⟩
theorem MapOf.step {J : List It} {k : Nat} {D : DataW Unit} (h : MapOf J k D) (hT : Maps.Tidy D) : MapOf J (k + 1) (D.put (.string (iAt J k).tx) (.lit (.int .i64 (iAt J k).id))) := by
  have hk : WideAt.IsKeyLit (.string (iAt J k).tx) := trivial
  have hnew : Maps.has D (.string (iAt J k).tx) = true ↔ ¬ ∀ j, j < k → (iAt J j).tx ≠ (iAt J k).tx := by
    rw [h.has]
    constructor
    · rintro ⟨j, hj, e⟩ hn; exact hn j hj e
    · intro hn
      by_cases he : ∃ j, j < k ∧ (iAt J j).tx = (iAt J k).tx
      · exact he
      · exact absurd (fun j hj e => he ⟨j, hj, e⟩) hn
  have hsz := Maps.size_put (k := .string (iAt J k).tx) hT (.lit (.int .i64 (iAt J k).id))
  have hle := h.le
  refine ⟨fun l => ?_, fun ht j hj z => ?_, ?_, ?_⟩
  · by_cases e : l = (iAt J k).tx
    · subst e
      rw [Maps.has_put_same hT.isMap hk]
      exact ⟨fun _ => ⟨k, by omega, rfl⟩, fun _ => rfl⟩
    · rw [Maps.has_put_other (by intro h; apply e; injection h), h.has]
      constructor
      · rintro ⟨j, hj, e2⟩; exact ⟨j, by omega, e2⟩
      · rintro ⟨j, hj, e2⟩
        have : j ≠ k := fun e3 => e (by rw [← e2, e3])
        exact ⟨j, by omega, e2⟩
  · by_cases e : j = k
    · subst e; exact Maps.atKey_put_same hT.isMap hk _ _
    · have hjk : (iAt J j).tx ≠ (iAt J k).tx := ht j k (by omega) (by omega)
      rw [Maps.atKey_put_other (by intro h; apply hjk; injection h)]
      exact h.idAt (fun a b hab hb => ht a b hab (by omega)) j (by omega) z
  · rw [hsz]; split <;> omega
  · rw [hsz]
    by_cases hh : Maps.has D (.string (iAt J k).tx) = true
    · rw [if_pos hh]
      constructor
      · intro e; omega
      · intro ht
        exact absurd (fun j hj => ht j k hj (by omega)) (hnew.1 hh)
    · rw [if_neg hh]
      constructor
      · intro e a b hab hb
        by_cases eb : b = k
        · subst eb
          intro e2
          exact hh ((h.has _).2 ⟨a, hab, e2⟩)
        · exact h.all.1 (by omega) a b hab (by omega)
      · intro ht
        have := h.all.2 (fun a b hab hb => ht a b hab (by omega))
        omega
/-- facts that are right are told apart by their texts -/
theorem texts_dist {J : List It} (h : ∀ k, k < J.length → factB (iAt J k).kd (iAt J k).L = true) : Texts J J.length ↔ Dist J := by
  have key : ∀ i j, i < J.length → j < J.length → ((iAt J i).tx = (iAt J j).tx ↔ (iAt J i).same (iAt J j).kd (iAt J j).L = true) := fun i j hi hj => by
    have := sameF_text (h i hi) (h j hj)
    unfold It.same It.tx
    rw [this, decide_eq_true_iff]
    exact ⟨fun e => ByteArray.ext (Array.toList_inj.1 e), fun e => by rw [e]⟩
  constructor
  · intro ht i j hij hj
    have := ht i j hij hj
    rw [Ne, key i j (by omega) hj] at this
    simpa using this
  · intro hd i j hij hj e
    rw [key i j (by omega) hj, hd i j hij hj] at e
    cases e
theorem tx_len {kd : ByteArray} {L : List V3} (h : factB kd L = true) : (factT kd L).size ≤ 200 := by
  obtain ⟨n1, h5, o1⟩ := factB_open h
  have h1 := name_size n1
  have h2 := joinV_le o1
  have e : (factT kd L).size = (factT kd L).data.toList.length := by rw [Array.length_toList]; rfl
  have e2 : kd.data.toList.length = kd.size := by rw [Array.length_toList]; rfl
  rw [e, factT_list h]
  simp only [List.length_append, List.length_cons, List.length_nil]
  omega

theorem lawT : Maps.Keyed Tryd.prog 9 := Maps.string_keyed Tryd.underlying9
theorem run_makeMapN (n : Nat) (W : World) (h : n ≤ 1048580) : (Instr.makeMap 101 (some (.int .i64 (n : Int)))).run Tryd.prog W = .ok (.map (some W.heap.size)) (W.alloc (.map #[] 0)) := by
  simp [Instr.makeMap, run_underlying Tryd.underlying101, asInt, newObj, Result.andThen]
  rfl

theorem box_drw {w w' : World} {R : Nat} {o : Obj} (h : w.heap[R]? = some o) (hb : Below w.drew.heap.size w.drew w') : w'.heap[R]? = some o := box_step (w := w.drew) h hb
theorem ownsMap_below {w w' : World} {B n : Nat} {D : DataW Unit} (h : w.ownsMap Tryd.prog 9 rI B n D) (hb : Below w.heap.size w w') : w'.ownsMap Tryd.prog 9 rI B n D := by
  have hl := h.lt
  obtain ⟨es, c, h1, r⟩ := h
  exact ⟨es, c, by rw [hb.block B hl]; exact h1, r⟩
theorem ownsMap_drew {w w' : World} {B n : Nat} {D : DataW Unit} (h : w.ownsMap Tryd.prog 9 rI B n D) (hb : Below w.drew.heap.size w.drew w') : w'.ownsMap Tryd.prog 9 rI B n D := ownsMap_below (w := w.drew) h hb

set_option maxRecDepth 100000 in
set_option maxHeartbeats 6400000 in
theorem byText_any (a : Option Addr) (n cap : Nat) (J : List It) (w : World) (hr : RdI w a J) (hJ : J.length = n) (hn : n ≤ 1000) (hok : ∀ i, i < J.length → factB (iAt J i).kd (iAt J i).L = true) (hs : ∀ i, i < J.length → okI (iAt J i)) (ht : Tab w) :
    Calls Tryd.prog 68 #[.slice a n cap] w fun e w' => ∃ B D, e = .returned (.map (some B)) ∧ w'.ownsMap Tryd.prog 9 rI B n D ∧ MapOf J n D ∧ Below w.heap.size w w' := by
  have HJ := hide hJ
  have HOk := hide hok
  have HS := hide hs
  have HTab := hide ht
  clear hJ hok hs ht
  have hmm := fun W => run_makeMapN n W (by omega)
  have b0 := below_al w (.map #[] 0)
  have ho0 := World.ownsMap_made w Tryd.prog 9 rI
  have hz0 : w.heap.size < (w.alloc (.map #[] 0)).heap.size := by simp
  go_enter Tryd.func68, Tryd.ntmps68
  go_wp2
  generalize w.alloc (.map #[] 0) = w1 at b0 ho0 hz0 ⊢
  go_loopw [11] (fun i wr => ∃ (k : Nat) (D : DataW Unit), k ≤ n ∧ i = .int .i64 k ∧ wr.ownsMap Tryd.prog 9 rI w.heap.size k D ∧ MapOf J k D ∧ Below w.heap.size w wr ∧ w.heap.size < wr.heap.size) (fun i _ => n - (intOf i).toNat)
  case atStart => exact ⟨0, .map [], Nat.zero_le _, rfl, ho0, MapOf.zero J, b0, hz0⟩
  case round =>
    clear b0 ho0 hz0
    obtain ⟨k, D, hk, rfl, hown, hmap, hbel, hsz⟩ := hrel
    have HMap := hide hmap
    have HOwn := hide hown
    clear hmap hown
    by_cases hlt : k < n
    · obtain ⟨b2, o2, e2, hbw2, hc2⟩ := (hr.below hbel).open (by rw [HJ.out]; omega)
      obtain ⟨c0, c1, c2, hv⟩ := hc2 k (by rw [HJ.out]; exact hlt)
      have HOkk := hide (HOk.out k (by rw [HJ.out]; exact hlt))
      have HSk := hide (HS.out k (by rw [HJ.out]; exact hlt))
      have HStep := hide (HMap.out.step (HOwn.out.tidy lawT))
      clear hc2
      subst e2
      obtain ⟨x, hx⟩ : ∃ x, x = iAt J k := ⟨_, rfl⟩
      rw [← hx] at c0 c1 c2 hv HOkk HSk HStep
      clear hx
      obtain ⟨id, kd, va, vc, L⟩ := x
      simp only [It.tx] at c0 c1 c2 hv HOkk HSk HStep
      have ba := below_al wr (.cells #[.int .i64 id, .string kd, .slice va L.length vc] 64)
      have hBox := box_new wr (.int .i64 id) (.string kd) (.slice va L.length vc) 64
      have hB1 : Below w.heap.size w (wr.alloc (.cells #[.int .i64 id, .string kd, .slice va L.length vc] 64)) := hbel.trans (ba.mono hbel.size)
      have ho1 := ownsMap_below HOwn.out ba
      have hv1 := hv.below ba
      have hz1 : w.heap.size < (wr.alloc (.cells #[.int .i64 id, .string kd, .slice va L.length vc] 64)).heap.size := Nat.lt_of_lt_of_le hsz ba.size
      have hl5 : L.length ≤ 1048580 := by have := (factB_open HOkk.out).2.1; omega
      go_wp2_with fail
      generalize wr.alloc (.cells #[.int .i64 id, .string kd, .slice va L.length vc] 64) = w2 at hBox hB1 ho1 hv1 hz1 ba ⊢
      have HBox := hide hBox
      have HO1 := hide ho1
      obtain ⟨x0, x1, x2, -, -, -⟩ := box_cell hBox
      have hvd : RdV w2.drew va L := hv1.heap rfl
      have htd : Tab w2.drew := HTab.out.later hB1.drew (Nat.le_refl _)
      clear ba hBox ho1 c0 c1 c2 hv hv1
      go_region_with (first | (go_at_call 69; refine (implFactText_any kd va vc L _ HSk.out.1 hvd HSk.out.2.2 hl5 htd).mono ?_; rintro e w3 ⟨rfl, hb3⟩; obtain ⟨y0, y1, y2, -, -, -⟩ := box_cell (box_drw HBox.out hb3); obtain ⟨w4, hrun4, hown4, hg4⟩ := (ownsMap_drew HO1.out hb3).update (t := 101) lawT Tryd.underlying101 (by unfold maxLen; omega) (Go.WideMaps.keyOf_string_mk Tryd.underlying9 (s := factT kd L) (by have := tx_len HOkk.out; unfold maxLen; omega)) (rI_mk id kd va L.length vc)))
      all_goals
        have HOwn4 := hide hown4
        have hb3' : Below w2.heap.size w2 w3 := below_dr hb3
        have B3 : Below w.heap.size w w3 := hB1.trans (hb3'.mono hB1.size)
        have B4 : Below w.heap.size w w4 := B3.grown hg4 B3.size (fun k hk => by cases hk; exact Nat.le_refl _)
        have hz4 : w.heap.size < w4.heap.size := Nat.lt_of_lt_of_le hz1 (Nat.le_trans hb3'.size hg4.size)
        clear hown4 hg4 hrun4 hb3 hb3' y0 y1 y2 x0 x1 x2 B3
        go_wp2
        go_roundw
        case rel => exact ⟨k + 1, _, by omega, by go_num, HOwn4.out, HStep.out, B4, hz4⟩
        case measure => simp [intOf]; omega
    · obtain rfl : k = n := by omega
      go_wp2
      go_ret
      exact ⟨_, D, rfl, HOwn.out, HMap.out, hbel⟩
end Go.Proofs.YtlaoiagpoomldabDoor
