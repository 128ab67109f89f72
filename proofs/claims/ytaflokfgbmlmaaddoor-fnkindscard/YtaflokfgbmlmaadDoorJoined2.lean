/-
  Texts of this claim joined into one: ValR, ParseP, Atoi, Loose, ParseI, ParseS, Parse, ValsP, FactInj, FactTI, KeepS, ByText, StoreI, EqStore, IdOfS.
-/
import Derived.Test.YtaflokfgbmlmaadDoorJoined1
import Derived.Test.YtaflokfgbmlmaadDoorJValP
import Derived.Test.YtaflokfgbmlmaadDoorShelf
import Derived.Test.YtaflokfgbmlmaadDoorJBox
import Derived.Lib.SmallJoins
import Derived.ProofKit
import Derived.Below
import Derived.Lib.SlicesS
import Derived.Test.YtaflokfgbmlmaadDoorJWhole
import Derived.Test.YtaflokfgbmlmaadDoorJV3
import Derived.Test.YtaflokfgbmlmaadDoorJFactL
import Derived.OwnWalk
import Derived.Maps.OwnSet
import Derived.StringKeys
import Derived.Deep.RegionWith
import Derived.Test.YtaflokfgbmlmaadDoorJKeepF
import Derived.Deep.RegionHeld3
import Derived.Test.YtaflokfgbmlmaadDoorJFactSame
/-
  Values in bytes, plainly: what GetVal reads.
-/
namespace Go.Proofs.YtaflokfgbmlmaadDoor
open Go.RowKit
set_option linter.unusedVariables false

theorem numR_false {bs : List UInt8} {x : Int} (h : (numR bs x).2.2 = false) : numR bs x = (0, 0, false) := by
  by_cases h0 : x < 0
  · exact numR_neg h0
  · obtain ⟨A, rfl⟩ := Int.eq_ofNat_of_zero_le (show 0 ≤ x by omega)
    cases hs : scanN bs A 5 0 with
    | none => exact numR_none hs
    | some k =>
      rw [numR_some hs] at h ⊢
      split at h
      · rename_i hc; rw [if_pos hc]
      · simp at h
theorem textR_size (bs : List UInt8) (x : Int) : (textR bs x).1.size ≤ bs.length := by
  unfold textR
  split
  · exact Nat.zero_le _
  · show (((bs.drop _).take _).toArray).size ≤ _
    simp; omega

/-- what GetVal answers -/
def valR (bs : List UInt8) (x : Int) : Int × Int × ByteArray × Int × Bool :=
  if (numR bs x).2.2 = false then (0, 0, ⟨#[]⟩, 0, false)
  else if (numR bs x).1 = 1 then
    if (numR bs (numR bs x).2.1).2.2 && valB 1 (numR bs (numR bs x).2.1).1 ⟨#[]⟩ then (1, (numR bs (numR bs x).2.1).1, ⟨#[]⟩, (numR bs (numR bs x).2.1).2.1, true) else (0, 0, ⟨#[]⟩, 0, false)
  else
    if (textR bs (numR bs x).2.1).2.2 && valB (numR bs x).1 0 (textR bs (numR bs x).2.1).1 then ((numR bs x).1, 0, (textR bs (numR bs x).2.1).1, (textR bs (numR bs x).2.1).2.1, true) else (0, 0, ⟨#[]⟩, 0, false)
def valT (r : Int × Int × ByteArray × Int × Bool) : Value := .tuple #[.agg #[.int .i64 r.1, .int .i64 r.2.1, .string r.2.2.1], .int .i64 r.2.2.2.1, .bool r.2.2.2.2]
theorem valR_no {bs : List UInt8} {x : Int} (h : (numR bs x).2.2 = false) : valR bs x = (0, 0, ⟨#[]⟩, 0, false) := by unfold valR; rw [if_pos h]
theorem valR_num {bs : List UInt8} {x p n q : Int} {b : Bool} (h : numR bs x = (1, p, true)) (h2 : numR bs p = (n, q, b)) :
    valR bs x = if b && valB 1 n ⟨#[]⟩ then (1, n, ⟨#[]⟩, q, true) else (0, 0, ⟨#[]⟩, 0, false) := by
  unfold valR; rw [h, if_neg (by simp), if_pos rfl, h2]
theorem valR_text {bs : List UInt8} {x k p q : Int} {s : ByteArray} {b : Bool} (h : numR bs x = (k, p, true)) (hk : k ≠ 1) (h2 : textR bs p = (s, q, b)) :
    valR bs x = if b && valB k 0 s then (k, 0, s, q, true) else (0, 0, ⟨#[]⟩, 0, false) := by
  unfold valR; rw [h, if_neg (by simp), if_neg hk, h2]
theorem ret_val {bs : List UInt8} {x : Int} {r : Int × Int × ByteArray × Int × Bool} (h : valR bs x = r) : Ending.returned (valT r) = .returned (valT (valR bs x)) := by rw [h]
end Go.Proofs.YtaflokfgbmlmaadDoor
/-
  What ParseVal answers, plainly: a number's one text (numV), or a text between two quotes; and that reading loosely, then writing and comparing, answers the same (number part).
-/
namespace Go.Proofs.YtaflokfgbmlmaadDoor
open Go.Lib
set_option linter.unusedVariables false

theorem valB_whole (n : Int) : valB 1 n ⟨#[]⟩ = numOk n := by
  have : (ByteArray.mk #[]).size = 0 := rfl
  simp [valB, inB, numOk, this]
theorem valB_zero : valB 0 0 ⟨#[]⟩ = false := by simp [valB]

/-- a text's list and the text -/
theorem eq_mk {s : ByteArray} {l : List UInt8} : (⟨l.toArray⟩ : ByteArray) = s ↔ l = s.data.toList := by
  constructor
  · rintro rfl; simp
  · intro h; apply ByteArray.ext; rw [h]

/-- the number that a loose reading answers stands the test just where the text is that number's one text -/
theorem loose_ok {s : ByteArray} {n : Int} (h : atoiAll s.data.toList = .ok n) :
    (valB 1 n ⟨#[]⟩ = true ∧ textV 1 n ⟨#[]⟩ = s) ↔ numV s.data.toList = some n := by
  constructor
  · rintro ⟨hv, ht⟩
    rw [textV_num hv, eq_mk] at ht
    rw [← ht]
    exact numV_itoa (by rw [← valB_whole]; exact hv)
  · intro hn
    obtain ⟨hk, e⟩ := numV_some hn
    have hv : valB 1 n ⟨#[]⟩ = true := by rw [valB_whole]; exact hk
    exact ⟨hv, by rw [textV_num hv, eq_mk]; exact e.symm⟩
theorem loose_only {s : ByteArray} {n m : Int} (h : atoiAll s.data.toList = .ok n) (hm : numV s.data.toList = some m) : m = n := by
  obtain ⟨hk, e⟩ := numV_some hm
  have := atoi_itoa hk
  rw [← e, h] at this
  exact (by injection this with h; exact h.symm)
theorem loose_none {s : ByteArray} (h : ∀ n, atoiAll s.data.toList ≠ .ok n) : numV s.data.toList = none := by
  cases hn : numV s.data.toList with
  | none => rfl
  | some m =>
    obtain ⟨hk, e⟩ := numV_some hn
    exact absurd (by rw [e]; exact atoi_itoa hk) (h m)
end Go.Proofs.YtaflokfgbmlmaadDoor
/-
  What strconv.Atoi answers: the number, or an error.
-/
namespace Go.Proofs.YtaflokfgbmlmaadDoor
open Go.RowKit Go.Lib
set_option linter.unusedVariables false

/-- the library's two errors are there -/
def Errs (w : World) : Prop := (∃ tp p, w.var? Tryd.prog "strconv.ErrSyntax" = some #[.iface tp p]) ∧ (∃ tp p, w.var? Tryd.prog "strconv.ErrRange" = some #[.iface tp p])
end Go.Proofs.YtaflokfgbmlmaadDoor
/-
  What impl.looseVal answers: what stands between a text's first byte and its last, where the first is a quote; else the number that strconv.Atoi reads; else nothing.
-/
namespace Go.Proofs.YtaflokfgbmlmaadDoor
open Go.RowKit Go.Lib
set_option linter.unusedVariables false

end Go.Proofs.YtaflokfgbmlmaadDoor
/-
  What impl.ParseVal answers: what the loose reading answers, where that is a value whose one text is the given one; else nothing.
-/
namespace Go.Proofs.YtaflokfgbmlmaadDoor
open Go.RowKit Go.Lib
set_option linter.unusedVariables false

/-- the answer, as the call gives it -/
def ansV (b : Bool) (K N : Int) (S : ByteArray) : Value := if b then .tuple #[.agg #[.int .i64 K, .int .i64 N, .string S], .bool true] else .tuple #[.agg #[.int .i64 0, .int .i64 0, .string ⟨#[]⟩], .bool false]

end Go.Proofs.YtaflokfgbmlmaadDoor
/-
  What the model's ParseVal answers, by the text's form: between two quotes, behind a minus, else.
-/
namespace Go.Proofs.YtaflokfgbmlmaadDoor
open Go.RowKit Go.Lib
set_option linter.unusedVariables false

theorem below_al2 (w : World) (o : Obj) : Below w.heap.size w (w.alloc o) := (Below.refl _ _).alloc (Nat.le_refl _) _
theorem below_none {w w' : World} (h : w.grownBy w' none) : Below w.heap.size w w' := (Below.refl _ _).grown h (Nat.le_refl _) (fun k hk => by cases hk)

theorem decFrom_lt : ∀ (l : List UInt8) (acc u : Nat), decFrom acc l = some u → u < (acc + 1) * 10 ^ l.length
  | [], acc, u, h => by simp [decFrom] at h; subst h; simp
  | c :: r, acc, u, h => by
    simp only [decFrom] at h
    cases hd : digitVal c with
    | none => rw [hd] at h; simp at h
    | some d =>
      rw [hd] at h
      have h10 := (digitVal_some hd).2
      have ih := decFrom_lt r (acc * 10 + d) u h
      refine Nat.lt_of_lt_of_le ih ?_
      rw [List.length_cons, Nat.pow_succ, Nat.mul_comm (10 ^ r.length) 10, ← Nat.mul_assoc]
      exact Nat.mul_le_mul_right _ (by omega)
theorem wholeL_bd (l : List UInt8) : -1 ≤ wholeL l ∧ wholeL l < 10000000000 := by
  unfold wholeL
  split
  · omega
  · rename_i hc
    have hlen : l.length ≤ 10 := by omega
    cases hd : decFrom 0 l with
    | none => simp only []; omega
    | some u =>
      have := decFrom_lt l 0 u hd
      have h2 : 10 ^ l.length ≤ 10 ^ 10 := Nat.pow_le_pow_right (by omega) hlen
      simp only []
      omega
/-- the answer, of a number or none -/
def ansN : Option Int → Value
  | some n => ansV true 1 n ⟨#[]⟩
  | none => ansV false 1 0 ⟨#[]⟩
theorem numV_minus {l : List UInt8} {m : Int} (h1 : 1 < l.length) (h0 : l.head? = some 45) (hm : wholeL l.tail = m) : numV l = if 0 ≤ -m then none else if numOk (-m) then some (-m) else none := by
  unfold numV; rw [if_pos ⟨h1, h0⟩, hm]
theorem numV_plain {l : List UInt8} {m : Int} (h1 : ¬ (1 < l.length ∧ l.head? = some 45)) (hm : wholeL l = m) : numV l = if m < 0 then none else if numOk m then some m else none := by
  unfold numV; rw [if_neg h1, hm]
theorem ansN_of {n : Int} {o : Option Int} (h : o = if numOk n then some n else none) : ansV (valB 1 n ⟨#[]⟩) 1 n ⟨#[]⟩ = ansN o := by
  rw [valB_whole, h]
  cases numOk n <;> rfl
theorem head_of {s : ByteArray} (h : 0 < s.size) : s.data.toList.head? = some (s[0]'h) := by
  have hl : s.data.toList.length = s.size := by rw [Array.length_toList]; rfl
  rw [List.head?_eq_getElem?, List.getElem?_eq_getElem (by omega)]
  simp [ByteArray.getElem_eq_getElem_data]
theorem tail_of (s : ByteArray) : (s.extract 1 s.size).data.toList = s.data.toList.tail := by
  have hl : s.data.toList.length = s.size := by rw [Array.length_toList]; rfl
  rw [ByteArray.data_extract, Array.toList_extract, List.extract_eq_take_drop, List.take_of_length_le (by simp), List.drop_one]

end Go.Proofs.YtaflokfgbmlmaadDoor
/-
  What ParseVal answers, the tested one and the model's alike: parseO.
-/
namespace Go.Proofs.YtaflokfgbmlmaadDoor
open Go.RowKit Go.Lib
set_option linter.unusedVariables false

def quotedB (s : ByteArray) : Bool := decide (2 ≤ s.size) && (bat s 0 == 39) && (bat s (s.size - 1) == 39)
/-- the value that a text is read as -/
def parseO (s : ByteArray) : Option V3 :=
  if quotedB s then (if valB 2 0 (s.extract 1 (s.size - 1)) then some ⟨2, 0, s.extract 1 (s.size - 1)⟩ else none)
  else (numV s.data.toList).map fun n => ⟨1, n, ⟨#[]⟩⟩
/-- the answer, as the call gives it -/
def ansO : Option V3 → Value
  | some v => .tuple #[.agg #[.int .i64 v.K, .int .i64 v.N, .string v.S], .bool true]
  | none => .tuple #[.agg #[.int .i64 0, .int .i64 0, .string ⟨#[]⟩], .bool false]
theorem ansV_f (K N : Int) (S : ByteArray) : ansV false K N S = ansO none := rfl
theorem ansV_t (K N : Int) (S : ByteArray) : ansV true K N S = ansO (some ⟨K, N, S⟩) := rfl
theorem parseO_q {s : ByteArray} (h : quotedB s = true) : ansO (parseO s) = ansV (valB 2 0 (s.extract 1 (s.size - 1))) 2 0 (s.extract 1 (s.size - 1)) := by
  unfold parseO; rw [if_pos h]
  cases valB 2 0 (s.extract 1 (s.size - 1)) <;> rfl
theorem parseO_n {s : ByteArray} (h : quotedB s = false) : ansO (parseO s) = ansN (numV s.data.toList) := by
  unfold parseO; rw [if_neg (by simp [h])]
  cases numV s.data.toList <;> rfl
theorem quotedB_iff {s : ByteArray} : quotedB s = true ↔ 2 ≤ s.size ∧ bat s 0 = 39 ∧ bat s (s.size - 1) = 39 := by
  simp [quotedB, and_assoc]

theorem inner_of {s : ByteArray} (h1 : 2 ≤ s.size) (h0 : bat s 0 = 39) (h2 : bat s (s.size - 1) = 39) : (⟨#[39]⟩ ++ s.extract 1 (s.size - 1) ++ ⟨#[39]⟩ : ByteArray) = s := by
  have e : (s.extract 1 (s.size - 1)).size = s.size - 2 := by rw [ByteArray.size_extract]; omega
  have e1 : (⟨#[39]⟩ : ByteArray).size = 1 := rfl
  apply ByteArray.ext_getElem
  · simp only [ByteArray.size_append, e, e1]; omega
  · intro i hi hi'
    rw [bat_in (by omega)] at h0 h2
    have x0 : (s[0]'(by omega)) = 39 := UInt8.toNat_inj.1 (by have : (39 : UInt8).toNat = 39 := rfl; omega)
    have x2 : (s[s.size - 1]'(by omega)) = 39 := UInt8.toNat_inj.1 (by have : (39 : UInt8).toNat = 39 := rfl; omega)
    by_cases ha : i = 0
    · subst ha
      rw [ByteArray.getElem_append_left (by simp only [ByteArray.size_append, e, e1]; omega), ByteArray.getElem_append_left (by rw [e1]; omega), x0]; rfl
    · by_cases hb : i = s.size - 1
      · subst hb
        rw [ByteArray.getElem_append_right (by simp only [ByteArray.size_append, e, e1]; omega), x2]
        have : s.size - 1 - (⟨#[39]⟩ ++ s.extract 1 (s.size - 1) : ByteArray).size = 0 := by simp only [ByteArray.size_append, e, e1]; omega
        simp only [this]; rfl
      · rw [ByteArray.getElem_append_left (by simp only [ByteArray.size_append, e, e1]; omega), ByteArray.getElem_append_right (by rw [e1]; omega), ByteArray.getElem_extract]
        congr 1
        rw [e1]; omega
theorem inner_last {s S : ByteArray} (h : (⟨#[39]⟩ ++ S ++ ⟨#[39]⟩ : ByteArray) = s) : bat s (s.size - 1) = 39 := by
  subst h
  have e1 : (⟨#[39]⟩ : ByteArray).size = 1 := rfl
  rw [bat_in (by simp only [ByteArray.size_append, e1]; omega)]
  rw [ByteArray.getElem_append_right (by simp only [ByteArray.size_append, e1]; omega)]
  have : (⟨#[39]⟩ ++ S ++ ⟨#[39]⟩ : ByteArray).size - 1 - (⟨#[39]⟩ ++ S : ByteArray).size = 0 := by simp only [ByteArray.size_append, e1]; omega
  simp only [this]; rfl

end Go.Proofs.YtaflokfgbmlmaadDoor
/-
  Values come back of their bytes and of their texts, plainly.
-/
namespace Go.Proofs.YtaflokfgbmlmaadDoor
open Go.RowKit Go.Lib
set_option linter.unusedVariables false

theorem clamp_id {n : Int} (h : -1000000000 ≤ n ∧ n ≤ 1000000000) : clampN n = n := by unfold clampN; rw [if_neg (by omega), if_neg (by omega)]
theorem valB_one {N : Int} {S : ByteArray} (h : valB 1 N S = true) : (-1000000000 ≤ N ∧ N ≤ 1000000000) ∧ S = ⟨#[]⟩ := by
  by_cases hN : -1000000000 ≤ N ∧ N ≤ 1000000000
  · rw [valB_num S hN, decide_eq_true_iff] at h
    exact ⟨hN, empty_of_size h⟩
  · rw [valB_out S hN] at h; cases h
theorem valB_two {K N : Int} {S : ByteArray} (h : valB K N S = true) (hk : K ≠ 1) : K = 2 ∧ N = 0 ∧ S.size ≤ 20 := by
  by_cases h2 : K = 2
  · subst h2
    rw [valB_text, Bool.and_eq_true] at h
    exact ⟨rfl, by simpa using h.2, textB_le h.1⟩
  · rw [valB_none N S hk h2] at h; cases h

/-- a value that was put comes back, whatever stands ahead -/
theorem val_back (bs : List UInt8) (K N : Int) (S : ByteArray) (h : valB K N S = true) :
    valR (bs ++ encV K N S) (bs.length : Int) = (K, N, S, ((bs ++ encV K N S).length : Int), true) := by
  by_cases hk : K = 1
  · subst hk
    obtain ⟨hN, rfl⟩ := valB_one h
    rw [encV_num]
    have h1 := num_back bs (encN N) 1
    rw [clamp_id (by omega), List.append_assoc] at h1
    have h2 := num_back (bs ++ encN 1) [] N
    rw [clamp_id hN, List.append_nil, List.append_assoc] at h2
    rw [valR_num h1 h2, h]
    rfl
  · obtain ⟨rfl, rfl, hS⟩ := valB_two h hk
    rw [encV_text _ _ (by decide)]
    have h1 := num_back bs (encT S) 2
    rw [clamp_id (by omega), List.append_assoc] at h1
    have h2 := encT_back (bs ++ encN 2) S (by omega)
    rw [show (bs ++ encN 2 ++ (encN S.size ++ S.data.toList)) = bs ++ (encN 2 ++ encT S) by rw [List.append_assoc]; rfl] at h2
    rw [valR_text h1 (by decide) h2, h]
    rfl

theorem parse_back (K N : Int) (S : ByteArray) (h : valB K N S = true) : parseO (textV K N S) = some ⟨K, N, S⟩ := by
  by_cases hk : K = 1
  · subst hk
    obtain ⟨hN, rfl⟩ := valB_one h
    have hn := numV_itoa (n := N) (numOk_iff.2 hN)
    rw [textV_num h]
    have hq : quotedB ⟨(itoa N).toArray⟩ = false := by
      rw [Bool.eq_false_iff]
      intro hq
      obtain ⟨h1, h0, -⟩ := quotedB_iff.1 hq
      cases hl : itoa N with
      | nil => rw [hl] at h1; exact absurd h1 (by decide)
      | cons c r =>
        rw [hl] at hn h0
        rw [bat_in (by show 0 < (c :: r).toArray.size; simp)] at h0
        have hc : c.toNat = 39 := by
          have : ((ByteArray.mk (c :: r).toArray)[0]'(by show 0 < (c :: r).toArray.size; simp)) = c := by simp [ByteArray.getElem_eq_getElem_data]
          rw [this] at h0; omega
        rw [numV_head hc] at hn; cases hn
    unfold parseO
    rw [if_neg (by simp [hq])]
    show (numV ((itoa N).toArray).toList).map _ = _
    rw [List.toList_toArray, hn]; rfl
  · obtain ⟨rfl, rfl, hS⟩ := valB_two h hk
    rw [textV_text h hk]
    have e1 : (⟨#[39]⟩ : ByteArray).size = 1 := rfl
    have hsz : (⟨#[39]⟩ ++ S ++ ⟨#[39]⟩ : ByteArray).size = S.size + 2 := by simp only [ByteArray.size_append, e1]; omega
    have hq : quotedB (⟨#[39]⟩ ++ S ++ ⟨#[39]⟩) = true := by
      refine quotedB_iff.2 ⟨by omega, ?_, inner_last rfl⟩
      rw [bat_in (by omega), ByteArray.getElem_append_left (by simp only [ByteArray.size_append, e1]; omega), ByteArray.getElem_append_left (by rw [e1]; omega)]; rfl
    have hi : (⟨#[39]⟩ ++ S ++ ⟨#[39]⟩ : ByteArray).extract 1 ((⟨#[39]⟩ ++ S ++ ⟨#[39]⟩ : ByteArray).size - 1) = S := by
      apply ByteArray.ext_getElem
      · rw [ByteArray.size_extract, hsz]; omega
      · intro i hi hi'
        rw [ByteArray.getElem_extract, ByteArray.getElem_append_left (by simp only [ByteArray.size_append, e1]; omega), ByteArray.getElem_append_right (by rw [e1]; omega)]
        congr 1
        rw [e1]; omega
    unfold parseO
    rw [if_pos hq, hi, h]; rfl
theorem textV_size {K N : Int} {S : ByteArray} (h : valB K N S = true) : (textV K N S).size ≤ 22 := by
  by_cases hk : K = 1
  · subst hk
    obtain ⟨hN, rfl⟩ := valB_one h
    rw [textV_num h]
    show (itoa N).toArray.size ≤ 22
    simp only [List.size_toArray]
    by_cases hn : N < 0
    · rw [itoa_neg hn]; have := nDigits_10 N.natAbs (by omega); simp only [List.length_cons]; rw [decDigits_length]; omega
    · rw [itoa_pos hn]; have := nDigits_10 N.toNat (by omega); rw [decDigits_length]; omega
  · obtain ⟨rfl, rfl, hS⟩ := valB_two h hk
    rw [textV_text h hk]
    have e1 : (⟨#[39]⟩ : ByteArray).size = 1 := rfl
    simp only [ByteArray.size_append, e1]; omega
end Go.Proofs.YtaflokfgbmlmaadDoor
/-
  Plainly: the text of a fact that is right tells the fact: which bytes are in it, and that two such facts with one text are one.
-/
namespace Go.Proofs.YtaflokfgbmlmaadDoor
open Go.RowKit
set_option linter.unusedVariables false

/-- a byte of a value's text: a word's, a quote or a sign -/
def txB (c : UInt8) : Prop := c ≠ 44 ∧ c ≠ 40 ∧ c ≠ 41
theorem dec_bytes : ∀ (n u : Nat), u ≤ n → ∀ c ∈ Lib.decDigits u, 48 ≤ c.toNat ∧ c.toNat ≤ 57
  | 0, u, h, c, hc => by
    obtain rfl : u = 0 := by omega
    rw [Lib.decDigits_one (by omega)] at hc
    simp at hc; subst hc; decide
  | n + 1, u, h, c, hc => by
    by_cases hu : u < 10
    · rw [Lib.decDigits_one hu] at hc
      simp only [List.mem_cons, List.not_mem_nil, or_false] at hc
      subst hc
      have : (UInt8.ofNat (48 + u)).toNat = 48 + u := by simp; omega
      omega
    · rw [Lib.decDigits, dif_neg hu] at hc
      rcases List.mem_append.1 hc with h1 | h1
      · exact dec_bytes n (u / 10) (by omega) c h1
      · simp only [List.mem_cons, List.not_mem_nil, or_false] at h1
        subst h1
        have : (UInt8.ofNat (48 + u % 10)).toNat = 48 + u % 10 := by simp; omega
        omega
theorem u8_ne {c : UInt8} {k : Nat} (hk : k < 256) (h : c.toNat ≠ k) : c ≠ UInt8.ofNat k := by
  intro e; apply h; rw [e]; simp; omega
theorem itoa_bytes (n : Int) : ∀ c ∈ Lib.itoa n, txB c := by
  intro c hc
  have k : ∀ u, c ∈ Lib.decDigits u → txB c := fun u h => by
    have := dec_bytes u u (Nat.le_refl _) c h
    exact ⟨u8_ne (k := 44) (by omega) (by omega), u8_ne (k := 40) (by omega) (by omega), u8_ne (k := 41) (by omega) (by omega)⟩
  unfold Lib.itoa at hc
  split at hc
  · rcases List.mem_cons.1 hc with rfl | h
    · exact ⟨by decide, by decide, by decide⟩
    · exact k _ h
  · exact k _ hc
theorem itoa_ne (n : Int) : Lib.itoa n ≠ [] := by
  unfold Lib.itoa; split
  · simp
  · exact decDigits_ne _
theorem word_byte {c : UInt8} (h : wordB (c.toNat : Int) = true) : txB c := by
  have h2 : c.toNat ≠ 44 ∧ c.toNat ≠ 40 ∧ c.toNat ≠ 41 := by
    unfold wordB inB at h
    simp only [Bool.or_eq_true, Bool.and_eq_true, decide_eq_true_eq, beq_iff_eq] at h
    omega
  exact ⟨u8_ne (k := 44) (by omega) h2.1, u8_ne (k := 40) (by omega) h2.2.1, u8_ne (k := 41) (by omega) h2.2.2⟩
theorem bat_mem {s : ByteArray} {p : Int → Bool} (h : ∀ i, i < s.size → p (bat s i) = true) : ∀ c ∈ s.data.toList, p (c.toNat : Int) = true := by
  intro c hc
  obtain ⟨i, hi, rfl⟩ := List.getElem_of_mem hc
  have hi2 : i < s.size := by rw [Array.length_toList] at hi; exact hi
  have := h i hi2
  rw [bat_in hi2] at this
  exact this
theorem textB_bytes {s : ByteArray} (h : textB s = true) : ∀ c ∈ s.data.toList, wordB (c.toNat : Int) = true := by
  refine bat_mem (p := wordB) (fun i hi => ?_)
  unfold textB at h
  rw [Bool.and_eq_true] at h
  exact List.all_eq_true.1 h.1 i (by simpa using hi)
theorem nameB_bytes {s : ByteArray} (h : nameB s = true) : ∀ c ∈ s.data.toList, txB c := by
  intro c hc
  refine word_byte (bat_mem (p := wordB) (fun i hi => ?_) c hc)
  unfold nameB at h
  rw [Bool.and_eq_true] at h
  have := List.all_eq_true.1 h.1 i (by simpa using hi)
  unfold headB at this
  rw [Bool.and_eq_true] at this
  exact this.1
theorem tx_bytes {v : V3} (h : v.ok = true) : (∀ c ∈ v.tx.data.toList, txB c) ∧ v.tx.data.toList ≠ [] := by
  obtain ⟨K, N, S⟩ := v
  have h' : valB K N S = true := h
  show (∀ c ∈ (textV K N S).data.toList, txB c) ∧ (textV K N S).data.toList ≠ []
  by_cases hk : K = 1
  · subst hk
    rw [textV_num h']
    exact ⟨by simpa using itoa_bytes N, by simpa using itoa_ne N⟩
  · rw [textV_text h' hk]
    have ht : textB S = true := by
      unfold valB at h'
      rw [Bool.or_eq_true] at h'
      rcases h' with h1 | h1
      · simp only [Bool.and_eq_true, beq_iff_eq] at h1; exact absurd h1.1.1 hk
      · simp only [Bool.and_eq_true] at h1; exact h1.1.2
    refine ⟨fun c hc => ?_, by simp⟩
    have hc2 : c = 39 ∨ c ∈ S.data.toList := by
      have : c ∈ [39] ++ S.data.toList ++ [39] := by simpa using hc
      simp only [List.mem_append, List.mem_cons, List.not_mem_nil, or_false] at this
      rcases this with (h | h) | h
      · exact .inl h
      · exact .inr h
      · exact .inl h
    rcases hc2 with rfl | hc2
    · exact ⟨by decide, by decide, by decide⟩
    · exact word_byte (textB_bytes ht c hc2)
theorem tx_inj {v u : V3} (h : v.ok = true) (h' : u.ok = true) (e : v.tx = u.tx) : v = u := by
  have p1 := parse_back v.K v.N v.S h
  have p2 := parse_back u.K u.N u.S h'
  have : textV v.K v.N v.S = textV u.K u.N u.S := e
  rw [this, p2] at p1
  simp only [Option.some.injEq, V3.mk.injEq] at p1
  exact V3.ext' p1.1.symm p1.2.1.symm p1.2.2.symm

/-- what stands ahead of the first such byte is told by the whole -/
theorem cut_inj {s : UInt8} : ∀ {a b x y : List UInt8}, s ∉ a → s ∉ b → a ++ s :: x = b ++ s :: y → a = b ∧ x = y
  | [], [], x, y, _, _, e => by simp at e; exact ⟨rfl, e⟩
  | [], c :: b, x, y, _, hb, e => by simp at e; exact absurd (by simp [e.1]) hb
  | c :: a, [], x, y, ha, _, e => by simp at e; exact absurd (by simp [e.1]) ha
  | c :: a, d :: b, x, y, ha, hb, e => by
    simp at e ha hb
    obtain ⟨h1, h2⟩ := cut_inj ha.2 hb.2 e.2
    exact ⟨by rw [e.1, h1], h2⟩
theorem inter_cons (s : UInt8) (p q : List UInt8) (t : List (List UInt8)) : List.intercalate [s] (p :: q :: t) = p ++ (s :: List.intercalate [s] (q :: t)) := by simp [List.intercalate, List.intersperse]
theorem inter_one (s : UInt8) (p : List UInt8) : List.intercalate [s] [p] = p := by simp [List.intercalate]
theorem inter_inj {s : UInt8} : ∀ {A B : List (List UInt8)}, (∀ a ∈ A, s ∉ a) → (∀ b ∈ B, s ∉ b) → A ≠ [] → B ≠ [] → List.intercalate [s] A = List.intercalate [s] B → A = B
  | [a], [b], _, _, _, _, e => by rw [inter_one, inter_one] at e; rw [e]
  | [a], b :: c :: B, ha, hb, _, _, e => by
    rw [inter_one, inter_cons] at e
    exact absurd (by rw [e]; simp) (ha a (by simp))
  | a :: c :: A, [b], ha, hb, _, _, e => by
    rw [inter_one, inter_cons] at e
    exact absurd (by rw [← e]; simp) (hb b (by simp))
  | a :: c :: A, b :: d :: B, ha, hb, _, _, e => by
    rw [inter_cons, inter_cons] at e
    obtain ⟨h1, h2⟩ := cut_inj (ha a (by simp)) (hb b (by simp)) e
    have := inter_inj (A := c :: A) (B := d :: B) (fun x hx => ha x (List.mem_cons_of_mem _ hx)) (fun x hx => hb x (List.mem_cons_of_mem _ hx)) (by simp) (by simp) h2
    rw [h1, this]
theorem map_tx_inj : ∀ {L M : List V3}, (∀ v ∈ L, v.ok = true) → (∀ v ∈ M, v.ok = true) → (L.map fun v => v.tx.data.toList) = (M.map fun v => v.tx.data.toList) → L = M
  | [], [], _, _, _ => rfl
  | [], _ :: _, _, _, e => by simp at e
  | _ :: _, [], _, _, e => by simp at e
  | a :: L, b :: M, hL, hM, e => by
    simp only [List.map_cons, List.cons.injEq] at e
    have h1 : a.tx = b.tx := ByteArray.ext (Array.toList_inj.1 e.1)
    rw [tx_inj (hL a (by simp)) (hM b (by simp)) h1, map_tx_inj (fun x hx => hL x (List.mem_cons_of_mem _ hx)) (fun x hx => hM x (List.mem_cons_of_mem _ hx)) e.2]
theorem joinV_inj {L M : List V3} (hL : ∀ v ∈ L, v.ok = true) (hM : ∀ v ∈ M, v.ok = true) (e : joinV L = joinV M) : L = M := by
  have key : ∀ {A : List V3}, (∀ v ∈ A, v.ok = true) → joinV A = [] → A = [] := fun {A} hA h => by
    cases A with
    | nil => rfl
    | cons a A =>
      exfalso
      have hne := (tx_bytes (hA a (by simp))).2
      unfold joinV Lib.join at h
      cases A with
      | nil => rw [List.map_cons, List.map_nil, inter_one] at h; exact hne h
      | cons b A => rw [List.map_cons, List.map_cons, inter_cons] at h; simp at h
  cases L with
  | nil => exact (key hM (by rw [← e]; rfl)).symm
  | cons a L =>
    cases M with
    | nil => exact key hL (by rw [e]; rfl)
    | cons b M =>
      apply map_tx_inj hL hM
      unfold joinV Lib.join at e
      refine inter_inj (s := 44) ?_ ?_ (by simp) (by simp) e
      · intro x hx hc
        obtain ⟨v, hv, rfl⟩ := List.mem_map.1 hx
        exact ((tx_bytes (hL v hv)).1 44 hc).1 rfl
      · intro x hx hc
        obtain ⟨v, hv, rfl⟩ := List.mem_map.1 hx
        exact ((tx_bytes (hM v hv)).1 44 hc).1 rfl
theorem factT_list {kd : ByteArray} {L : List V3} (h : factB kd L = true) : (factT kd L).data.toList = kd.data.toList ++ 40 :: (joinV L ++ [41]) := by
  rw [factT_yes h]; simp
theorem factT_inj {kd kd' : ByteArray} {L M : List V3} (h : factB kd L = true) (h' : factB kd' M = true) (e : factT kd L = factT kd' M) : kd = kd' ∧ L = M := by
  have e2 : (factT kd L).data.toList = (factT kd' M).data.toList := by rw [e]
  rw [factT_list h, factT_list h'] at e2
  obtain ⟨n1, -, o1⟩ := factB_open h
  obtain ⟨n2, -, o2⟩ := factB_open h'
  obtain ⟨h1, h2⟩ := cut_inj (s := 40) (fun hc => (nameB_bytes n1 40 hc).2.1 rfl) (fun hc => (nameB_bytes n2 40 hc).2.1 rfl) e2
  exact ⟨ByteArray.ext (Array.toList_inj.1 h1), joinV_inj o1 o2 (List.append_cancel_right h2)⟩
theorem sameF_text {kd kd' : ByteArray} {L M : List V3} (h : factB kd L = true) (h' : factB kd' M = true) : sameF kd L kd' M = decide (factT kd L = factT kd' M) := by
  rw [Bool.eq_iff_iff, decide_eq_true_iff]
  unfold sameF
  rw [Bool.and_eq_true, decide_eq_true_iff, decide_eq_true_iff]
  constructor
  · rintro ⟨rfl, rfl⟩; rfl
  · exact factT_inj h h'
end Go.Proofs.YtaflokfgbmlmaadDoor
/-
  What the tested function answers for a fact's text: factT.
-/
namespace Go.Proofs.YtaflokfgbmlmaadDoor
open Go.RowKit
set_option linter.unusedVariables false

theorem infoS : (Tryd.prog.info? 9).map (fun i => (i.zero, i.size, i.bytes)) = some (some (.string ⟨#[]⟩), 1, 16) := by kernel_rfl
/-- the cells of the texts -/
def cellsT (L : List V3) : List Value := L.map fun v => .string v.tx
theorem cellsT_snoc (L : List V3) (v : V3) : cellsT L ++ [.string v.tx] = cellsT (L ++ [v]) := by simp [cellsT]

def txs (L : List V3) : List ByteArray := L.map V3.tx
theorem txs_join (L : List V3) : Lib.join ((txs L).map (·.data.toList)) (ByteArray.mk #[44]).data.toList = joinV L := by
  unfold txs joinV
  rw [List.map_map]
  rfl
theorem own_txs {W : World} {base g c n : Nat} {L : List V3} (h : W.ownsRow base 9 1 (.slice (some ⟨g, 0, none⟩) n c) n (cellsT L)) :
    ∀ (j : Nat) x, (txs L)[j]? = some x → W.cell? ⟨g, 0 + j, none⟩ = some (.string x) := by
  intro j x hj
  have := h.cells (g := g) rfl j (.string x) (by unfold txs at hj; unfold cellsT; rw [List.getElem?_map] at hj ⊢; cases hq : L[j]? with
    | none => rw [hq] at hj; cases hj
    | some v => rw [hq] at hj; simp at hj ⊢; exact hj)
  rwa [Addr.add_lit] at this
theorem own_lt {W : World} {base g c n : Nat} {T : TypeId} {xs : List Value} (h : W.ownsRow base T 1 (.slice (some ⟨g, 0, none⟩) n c) n xs) : g < W.heap.size ∧ n ≤ c := by
  refine ⟨(h.lt g rfl).2, ?_⟩
  rcases h.2 with ⟨h1, _⟩ | ⟨g', cap', cur, h1, hb', hh, hnc, _⟩
  · simp at h1
  · simp only [Value.slice.injEq] at h1; omega
theorem keepJ {w0 W w' : World} {B g : Nat} {p0 : Addr} {v0 : Value} {xs : List ByteArray} (hb : Below W.heap.size W w')
    (h : W.cell? p0 = some v0 ∧ (∀ (j : Nat) x, xs[j]? = some x → W.cell? ⟨g, 0 + j, none⟩ = some (.string x)) ∧ g < W.heap.size ∧ Below B w0 W ∧ B ≤ W.heap.size) :
    w'.cell? p0 = some v0 ∧ (∀ (j : Nat) x, xs[j]? = some x → w'.cell? ⟨g, 0 + j, none⟩ = some (.string x)) ∧ g < w'.heap.size ∧ Below B w0 w' ∧ B ≤ w'.heap.size := by
  obtain ⟨h0, h1, h2, h3, h4⟩ := h
  have k : ∀ {a : Addr} {v : Value}, W.cell? a = some v → w'.cell? a = some v := fun {a v} h => by rw [hb.cell (World.block_lt_of_cell? W _ h)]; exact h
  exact ⟨k h0, fun j x hj => k (h1 j x hj), Nat.lt_of_lt_of_le h2 hb.size, h3.trans (hb.mono h4), Nat.le_trans h4 hb.size⟩
theorem joinC {w0 W : World} {B g : Nat} {p0 : Addr} {v0 : Value} {xs : List ByteArray}
    (h : W.cell? p0 = some v0 ∧ (∀ (j : Nat) x, xs[j]? = some x → W.cell? ⟨g, 0 + j, none⟩ = some (.string x)) ∧ g < W.heap.size ∧ Below B w0 W ∧ B ≤ W.heap.size) : ∀ (j : Nat) x, xs[j]? = some x → W.cell? ⟨g, 0 + j, none⟩ = some (.string x) := h.2.1
theorem joinL {w0 W : World} {B g : Nat} {p0 : Addr} {v0 : Value} {xs : List ByteArray}
    (h : W.cell? p0 = some v0 ∧ (∀ (j : Nat) x, xs[j]? = some x → W.cell? ⟨g, 0 + j, none⟩ = some (.string x)) ∧ g < W.heap.size ∧ Below B w0 W ∧ B ≤ W.heap.size) : g < W.heap.size := h.2.2.1
theorem belT {w0 W : World} {B : Nat} {p0 p1 : Addr} {v0 v1 : Value} {a : Option Addr} {L : List V3}
    (h : W.cell? p0 = some v0 ∧ W.cell? p1 = some v1 ∧ RdV W a L ∧ Below B w0 W ∧ B ≤ W.heap.size) : Below B w0 W := h.2.2.2.1
theorem ret_str {a b : ByteArray} (h : a = b) : Ending.returned (.string a) = .returned (.string b) := by rw [h]
theorem src1 (W : World) (x : ByteArray) : ∀ j u, ([.string x] : List Value)[j]? = some u → (W.alloc (.cells #[.string x] 9)).cell? ((⟨W.heap.size, 0, none⟩ : Addr).add j) = some u := by
  intro j u hj
  rw [Addr.add_lit, Nat.zero_add]
  have hb : (W.alloc (.cells #[.string x] 9)).heap[W.heap.size]? = some (.cells #[.string x] 9 (0, 0)) := by rw [heap_alloc_new]
  match j, hj with
  | 0, hj => rw [cell_of_row _ _ 0 _ _ (0, 0) hb]; simpa using hj
theorem one1 (x : ByteArray) : ∀ u ∈ ([.string x] : List Value), u.oneCell' = true := by
  intro u hu
  simp only [List.mem_cons, List.not_mem_nil, or_false] at hu
  rw [hu]; rfl

set_option maxRecDepth 100000 in
set_option maxHeartbeats 3200000 in
theorem joinVals_any (a : Option Addr) (cap : Nat) (L : List V3) (sep : ByteArray) (w : World) (hr : RdV w a L) (hs : ∀ v ∈ L, v.S.size ≤ maxLen) (hm : L.length ≤ 5) (ht : Tab w) (hlen : (Lib.join ((txs L).map (·.data.toList)) sep.data.toList).length ≤ 140737488355328) :
    Calls Tryd.prog 86 #[.slice a L.length cap, .func (.func 69) #[] #[], .string sep] w fun e w' =>
      e = .returned (.string ⟨(Lib.join ((txs L).map (·.data.toList)) sep.data.toList).toArray⟩) ∧ Below w.heap.size w w' := by
  obtain ⟨i0, hi, hz0, hz1, hz2⟩ := info_parts infoS
  have HTab := hide ht
  have HS := hide hs
  have HL := hide hlen
  clear ht hs hlen
  obtain ⟨n, hN⟩ : ∃ n, n = L.length := ⟨_, rfl⟩
  rw [← hN] at hm ⊢
  have HN := hide hN
  clear hN
  have hz3 : (i0.bytes * n) = 16 * n := by rw [hz2]
  go_enter Tryd.func86, Tryd.ntmps86
  go_wp2_with (at_make; refine wpList_make_own _ rfl _ _ 92 rfl w.heap.size 9 i0 (.string ⟨#[]⟩) 1 Tryd.underlying92 hi hz0 hz1 _ _ _ n rfl rfl (by omega) ?b2 ?b3 (Nat.le_refl _) ?_)
  case b2 => rw [hz2]; omega
  case b3 => unfold maxLen; omega
  intro w2 ho2 hg2
  have b2 : Below w.heap.size w w2 := below_gn hg2
  clear hg2
  go_wp2
  go_loopw [7, 15] (fun v i wr => ∃ (k g c : Nat), k ≤ n ∧ i = .int .i64 k ∧ v = .slice (some ⟨g, 0, none⟩) k c ∧ wr.ownsRow w.heap.size 9 1 (.slice (some ⟨g, 0, none⟩) k c) k (cellsT (L.take k)) ∧ Below w.heap.size w wr) (fun _ i _ => n - (intOf i).toNat)
  case atStart => exact ⟨0, w.heap.size, n, Nat.zero_le _, rfl, rfl, by rw [List.take_zero]; exact ho2, b2⟩
  case round =>
    clear ho2 b2
    obtain ⟨k, g, c, hk, rfl, rfl, hown, hbel⟩ := hrel
    by_cases hlt : k < n
    · obtain ⟨b, off, hab, hbw, hc⟩ := hr.open (by rw [← HN.out]; omega)
      obtain ⟨c0, c1, c2⟩ := hc k (by rw [← HN.out]; exact hlt)
      clear hc
      subst hab
      rw [← hbel.cell (p := ⟨b, off + k * 3, none⟩) hbw] at c0
      rw [← hbel.cell (p := ⟨b, off + k * 3 + 1, none⟩) hbw] at c1
      rw [← hbel.cell (p := ⟨b, off + k * 3 + 2, none⟩) hbw] at c2
      have HTake : Hid (cellsT (L.take k) ++ [.string (vAt L k).tx] = cellsT (L.take (k + 1))) := by unfold Hid; rw [cellsT_snoc, List.take_succ_eq_append_getElem (by rw [← HN.out]; exact hlt), vAt_in]
      have hS : (vAt L k).S.size ≤ maxLen := by rw [vAt_in (by rw [← HN.out]; exact hlt)]; exact HS.out _ (List.getElem_mem _)
      rw [show (vAt L k).tx = textV (vAt L k).K (vAt L k).N (vAt L k).S from rfl] at HTake
      generalize (vAt L k).K = K at c0 HTake hS
      generalize (vAt L k).N = N at c1 HTake hS
      generalize (vAt L k).S = S at c2 HTake hS
      have bA : Below w.heap.size w (wr.alloc (.cells #[.int .i64 K, .int .i64 N, .string S] 85)) := hbel.alloc hbel.size _
      have hoA := hown.alloc (.cells #[.int .i64 K, .int .i64 N, .string S] 85)
      have HTA : Hid (Tab (wr.alloc (.cells #[.int .i64 K, .int .i64 N, .string S] 85))) := HTab.out.later bA (Nat.le_refl _)
      go_wp2_with fail
      refine (implValText_any K N S _ hS HTA.out).mono ?_
      rintro e w3 ⟨rfl, hb3⟩
      generalize textV K N S = x at HTake
      have bel3 : Below w.heap.size w w3 := bA.trans (hb3.mono bA.size)
      have HO4 := hide ((ownsRow_below hoA hb3).alloc (.cells #[.string x] 9))
      have HB4 := hide (bel3.alloc bel3.size (.cells #[.string x] 9))
      have HSrc := hide (src1 w3 x)
      clear hb3 hbel hown hoA bA HTA c0 c1 c2 bel3
      go_wp2_with (at_builtin; refine wpList_append_lies _ rfl (.tmp 19) (.tmp 23) 92 rfl w.heap.size 9 i0 (.string ⟨#[]⟩) 1 16 Tryd.underlying92 hi hz0 hz1 hz2 rfl (by omega) (.slice (some ⟨g, 0, none⟩) k c) k (cellsT (L.take k)) rfl HO4.out ⟨w3.heap.size, 0, none⟩ 1 1 [.string x] ?hx rfl HSrc.out (one1 x) (by omega) (by unfold maxLen; omega) (by omega) HB4.out.size _ rfl ?_)
      case hx => simp [Act.eval]
      intro g5 c5 w5 ho5 hg5 hat5 hlt5
      have HO5 : Hid (w5.ownsRow w.heap.size 9 1 (.slice (some ⟨g5, 0, none⟩) (k + 1) c5) (k + 1) (cellsT (L.take (k + 1)))) := by
        unfold Hid
        rw [← HTake.out]
        exact ho5
      have HB5 := hide (HB4.out.grown hg5 HB4.out.size (fun k hk => (HO4.out.lt k hk).1))
      clear ho5 hg5 hat5 hlt5 HO4 HSrc HB4
      go_wp2
      go_roundw
      case rel => exact ⟨k + 1, g5, c5, by omega, by go_num, rfl, HO5.out, HB5.out⟩
      case measure => simp [intOf]; omega
    · obtain rfl : k = n := by omega
      have HO : Hid (wr.ownsRow w.heap.size 9 1 (.slice (some ⟨g, 0, none⟩) k c) k (cellsT L)) := by
        have := hown
        rw [HN.out, List.take_length, ← HN.out] at this
        exact this
      have hcs := own_txs HO.out
      obtain ⟨hgl, hkc⟩ := own_lt HO.out
      have htl : (txs L).length = k := by unfold txs; rw [List.length_map, HN.out]
      have hjoin := Tryd.strings_Join g 0 c (txs L) sep wr hcs hgl (by rw [htl]; omega) (by rw [htl]; exact hkc) HL.out
      rw [htl] at hjoin
      clear hown HO
      go_wp2_with fail
      refine hjoin.mono ?_
      rintro e w6 ⟨rfl, hb6⟩
      have B6 : Below w.heap.size w w6 := hbel.trans (hb6.mono hbel.size)
      go_wp2
      go_ret
      exact ⟨rfl, B6⟩

set_option maxRecDepth 100000 in
set_option maxHeartbeats 1600000 in
theorem namedTextV_any (kd : ByteArray) (a : Option Addr) (cap : Nat) (L : List V3) (sep y : ByteArray) (w : World) (hkd : kd.size ≤ 12) (hr : RdV w a L) (hs : ∀ v ∈ L, v.S.size ≤ maxLen) (hm : L.length ≤ 5) (ht : Tab w) (hy : y = ⟨(Lib.join ((txs L).map (·.data.toList)) sep.data.toList).toArray⟩) (hlen : y.size ≤ 1000) :
    Calls Tryd.prog 68 #[.string kd, .slice a L.length cap, .func (.func 69) #[] #[], .string sep] w fun e w' =>
      e = .returned (.string (kd ++ ⟨#[40]⟩ ++ y ++ ⟨#[41]⟩)) ∧ Below w.heap.size w w' := by
  have hl2 : (Lib.join ((txs L).map (·.data.toList)) sep.data.toList).length ≤ 1000 := by
    rw [hy] at hlen
    have h2 : (Lib.join ((txs L).map (·.data.toList)) sep.data.toList).toArray.size ≤ 1000 := hlen
    simpa using h2
  have hj := joinVals_any a cap L sep w hr hs hm ht (by omega)
  rw [← hy] at hj
  have HJ := hide hj
  clear hj hy
  have c40 : (ByteArray.mk #[40]).size = 1 := rfl
  have c41 : (ByteArray.mk #[41]).size = 1 := rfl
  have n0 : ¬ 9223372036854775807 < kd.size + 1 := by omega
  have m0 : kd.size + 1 ≤ 9223372036854775807 := by omega
  have n1 : ¬ 9223372036854775807 < kd.size + 1 + y.size := by omega
  have m1 : kd.size + 1 + y.size ≤ 9223372036854775807 := by omega
  have n2 : ¬ 9223372036854775807 < kd.size + 1 + y.size + 1 := by omega
  have m2 : kd.size + 1 + y.size + 1 ≤ 9223372036854775807 := by omega
  have n4 : ¬ 9223372036854775807 ≤ kd.size := by omega
  have m4 : kd.size < 9223372036854775807 := by omega
  have n5 : ¬ 9223372036854775807 ≤ kd.size + 1 + y.size := by omega
  have m5 : kd.size + 1 + y.size < 9223372036854775807 := by omega
  clear c40 c41
  go_enter Tryd.func68, Tryd.ntmps68
  go_wp2_with fail
  refine HJ.out.mono ?_
  rintro e w6 ⟨rfl, hb6⟩
  go_wp2
  go_ret
  exact ⟨ret_str (by simp only [ByteArray.append_assoc]), hb6⟩

set_option maxRecDepth 100000 in
set_option maxHeartbeats 3200000 in
theorem implFactText_any (kd : ByteArray) (a : Option Addr) (cap : Nat) (L : List V3) (w : World) (hkd : kd.size ≤ maxLen) (hr : RdV w a L) (hs : ∀ v ∈ L, v.S.size ≤ maxLen) (hm : L.length ≤ 1048580) (ht : Tab w) :
    Calls Tryd.prog 43 #[.agg #[.string kd, .slice a L.length cap]] w fun e w' =>
      e = .returned (.string (factT kd L)) ∧ Below w.heap.size w w' := by
  have HTab := hide ht
  have HS := hide hs
  have b0 := below_al w (.cells #[.string kd, .slice a L.length cap] 41)
  have hX := box2_new w (.string kd) (.slice a L.length cap) 41
  clear ht
  go_enter Tryd.func43, Tryd.ntmps43
  go_wp2_with fail
  refine (implFactOk_any kd a cap L _ hkd (hr.below b0) hs hm).mono ?_
  rintro e w1 ⟨rfl, hb1⟩
  have HX := hide (box_below hX hb1 (by simp))
  have hB1 : Below w.heap.size w w1 := b0.trans (hb1.mono b0.size)
  clear hb1 b0 hX hs
  cases hv : factB kd L
  · have HV := hide (factT_no hv)
    clear hv
    go_wp2
    go_ret
    exact ⟨by rw [HV.out]; rfl, hB1⟩
  · obtain ⟨hn, h5, hok⟩ := factB_open hv
    have HV := hide (factT_yes hv)
    have hkn := name_size hn
    have hjn := joinV_le hok
    clear hv hok hn hm
    obtain ⟨y, hy⟩ : ∃ y, y = (⟨(joinV L).toArray⟩ : ByteArray) := ⟨_, rfl⟩
    have hys : y.size ≤ 115 := by
      rw [hy]
      show (joinV L).toArray.size ≤ 115
      simp only [List.size_toArray]
      omega
    rw [← hy] at HV
    have HJ := hide (namedTextV_any kd a cap L ⟨#[44]⟩ y w1 (by omega) (hr.below hB1) HS.out h5 (HTab.out.later hB1 (Nat.le_refl _)) (by rw [txs_join]; exact hy) (by omega))
    obtain ⟨x0, x1, -, -⟩ := box2_cell HX.out
    clear hjn hy HX hr
    go_wp2_with fail
    refine HJ.out.mono ?_
    rintro e w6 ⟨rfl, hb6⟩
    have hB6 : Below w.heap.size w w6 := hB1.trans (hb6.mono hB1.size)
    go_wp2
    go_ret
    exact ⟨ret_str (by rw [HV.out]; simp only [ByteArray.append_assoc]), hB6⟩
end Go.Proofs.YtaflokfgbmlmaadDoor
/-
  Four cells in memory, and whatever else is kept where all that was there is.
-/
namespace Go.Proofs.YtaflokfgbmlmaadDoor
open Go.RowKit
set_option linter.unusedVariables false

theorem keep4 {P : World → Prop} {W w' : World} {p0 p1 p2 p3 : Addr} {v0 v1 v2 v3 : Value} (hP : ∀ {W W' : World}, P W → Below W.heap.size W W' → P W') (hb : Below W.heap.size W w')
    (h : W.cell? p0 = some v0 ∧ W.cell? p1 = some v1 ∧ W.cell? p2 = some v2 ∧ W.cell? p3 = some v3 ∧ P W) :
    w'.cell? p0 = some v0 ∧ w'.cell? p1 = some v1 ∧ w'.cell? p2 = some v2 ∧ w'.cell? p3 = some v3 ∧ P w' := by
  obtain ⟨h0, h1, h2, h3, h4⟩ := h
  have k : ∀ {a : Addr} {v : Value}, W.cell? a = some v → w'.cell? a = some v := fun {a v} h => by rw [hb.cell (World.block_lt_of_cell? W _ h)]; exact h
  exact ⟨k h0, k h1, k h2, k h3, hP h4 hb⟩
theorem kept0 {W w' : World} {p : Addr} {v : Value} (hb : Below W.heap.size W w') (h : W.cell? p = some v) : w'.cell? p = some v := by rw [hb.cell (World.block_lt_of_cell? W _ h)]; exact h

/-- a store and a fact as they came in, and all that was there at the head -/
structure SF (w : World) (a b : Option Addr) (J : List It) (M : List V3) (W : World) : Prop where
  rdI : RdI W a J
  rdV : RdV W b M
  bel : Below w.heap.size w W
theorem SF.keep {w W W' : World} {a b : Option Addr} {J : List It} {M : List V3} (h : SF w a b J M W) (hb : Below W.heap.size W W') : SF w a b J M W' :=
  ⟨h.rdI.below hb, h.rdV.below hb, h.bel.trans (hb.mono h.bel.size)⟩
theorem SF.drew {w W : World} {a b : Option Addr} {J : List It} {M : List V3} (h : SF w a b J M W) : SF w a b J M W.drew := h.keep ((Below.refl _ _).drew)
theorem SF.rdi {w W : World} {a b : Option Addr} {J : List It} {M : List V3} {p0 p1 p2 p3 : Addr} {v0 v1 v2 v3 : Value} (h : W.cell? p0 = some v0 ∧ W.cell? p1 = some v1 ∧ W.cell? p2 = some v2 ∧ W.cell? p3 = some v3 ∧ SF w a b J M W) : RdI W a J := h.2.2.2.2.rdI
theorem SF.rdv {w W : World} {a b : Option Addr} {J : List It} {M : List V3} {p0 p1 p2 p3 : Addr} {v0 v1 v2 v3 : Value} (h : W.cell? p0 = some v0 ∧ W.cell? p1 = some v1 ∧ W.cell? p2 = some v2 ∧ W.cell? p3 = some v3 ∧ SF w a b J M W) : RdV W b M := h.2.2.2.2.rdV
/-- a store as it came in, its copy, and all that was there at the head -/
structure SC (w : World) (a : Option Addr) (lo g cp : Nat) (J K : List It) (W : World) : Prop where
  rdI : RdI W a J
  copy : HoldsI W lo g cp K
  bel : Below w.heap.size w W
theorem SC.keep {w W W' : World} {a : Option Addr} {lo g cp : Nat} {J K : List It} (h : SC w a lo g cp J K W) (hb : Below W.heap.size W W') : SC w a lo g cp J K W' :=
  ⟨h.rdI.below hb, h.copy.later hb, h.bel.trans (hb.mono h.bel.size)⟩
theorem SC.drew {w W : World} {a : Option Addr} {lo g cp : Nat} {J K : List It} (h : SC w a lo g cp J K W) : SC w a lo g cp J K W.drew := h.keep ((Below.refl _ _).drew)
theorem SC.rdi {w W : World} {a : Option Addr} {lo g cp : Nat} {J K : List It} {p0 p1 p2 p3 : Addr} {v0 v1 v2 v3 : Value} (h : W.cell? p0 = some v0 ∧ W.cell? p1 = some v1 ∧ W.cell? p2 = some v2 ∧ W.cell? p3 = some v3 ∧ SC w a lo g cp J K W) : RdI W a J := h.2.2.2.2.rdI
theorem SC.cp {w W : World} {a : Option Addr} {lo g cp : Nat} {J K : List It} {p0 p1 p2 p3 : Addr} {v0 v1 v2 v3 : Value} (h : W.cell? p0 = some v0 ∧ W.cell? p1 = some v1 ∧ W.cell? p2 = some v2 ∧ W.cell? p3 = some v3 ∧ SC w a lo g cp J K W) : RdI W (some ⟨g, 0, none⟩) K := h.2.2.2.2.copy.rd

end Go.Proofs.YtaflokfgbmlmaadDoor
/-
  The tested program's map of items by their facts' texts: what it has, and how many.
-/
namespace Go.Proofs.YtaflokfgbmlmaadDoor
open Go.RowKit
set_option linter.unusedVariables false

/-- an item in the map reads as its Id -/
def rI (v : Value) : Option (DataW Unit × List MemPlace) := match v with
  | .agg cs => match cs.toList with
    | [.int .i64 id, .string _, .slice _ _ _] => some (.lit (.int .i64 id), [])
    | _ => none
  | _ => none
theorem rI_mk (id : Int) (s : ByteArray) (a : Option Addr) (l c : Nat) : rI (.agg #[.int .i64 id, .string s, .slice a l c]) = some (.lit (.int .i64 id), []) := rfl
/-- what reads so is an item's three cells -/
theorem rI_inv {v : Value} {id : Int} {ps : List MemPlace} (h : rI v = some (.lit (.int .i64 id), ps)) : ∃ s a l c, v = .agg #[.int .i64 id, .string s, .slice a l c] := by
  unfold rI at h
  split at h
  · rename_i cs
    split at h
    · rename_i id' s a l c e
      simp only [Option.some.injEq, Prod.mk.injEq, DataW.lit.injEq, Lit.int.injEq] at h
      obtain ⟨⟨-, rfl⟩, -⟩ := h
      exact ⟨s, a, l, c, by rw [← Array.toList_inj.1 (show cs.toList = (#[.int .i64 _, .string s, .slice a l c] : Array Value).toList from e)]⟩
    · cases h
  · cases h
def It.tx (x : It) : List UInt8 := (factT x.kd x.L).data.toList
/-- no two texts of the first k are the same -/
def Texts (J : List It) (k : Nat) : Prop := ∀ i j, i < j → j < k → (iAt J i).tx ≠ (iAt J j).tx
structure MapOf (J : List It) (k : Nat) (D : DataW Unit) : Prop where
  has : ∀ l : List UInt8, Maps.has D (.string l) = true ↔ ∃ j, j < k ∧ (iAt J j).tx = l
  idAt : Texts J k → ∀ j, j < k → ∀ z, D.atKey (.string (iAt J j).tx) z = .lit (.int .i64 (iAt J j).id)
  le : Maps.size D ≤ k
  all : Maps.size D = k ↔ Texts J k
theorem MapOf.zero (J : List It) : MapOf J 0 (.map []) :=
  ⟨fun l => ⟨fun h => by simp [Maps.has] at h, fun ⟨j, hj, _⟩ => absurd hj (Nat.not_lt_zero _)⟩, fun _ j hj => absurd hj (Nat.not_lt_zero _), Nat.le_refl _, ⟨fun _ i j _ hj => absurd hj (Nat.not_lt_zero _), fun _ => rfl⟩⟩
theorem MapOf.step {J : List It} {k : Nat} {D : DataW Unit} (h : MapOf J k D) (hT : Maps.Tidy D) : MapOf J (k + 1) (D.put (.string (iAt J k).tx) (.lit (.int .i64 (iAt J k).id))) := by
  have hk : WideAt.IsKeyLit (.string (iAt J k).tx) := trivial
  have hnew : Maps.has D (.string (iAt J k).tx) = true ↔ ¬ ∀ j, j < k → (iAt J j).tx ≠ (iAt J k).tx := by
    rw [h.has]
    constructor
    · rintro ⟨j, hj, e⟩ hn; exact hn j hj e
    · intro hn
      by_cases he : ∃ j, j < k ∧ (iAt J j).tx = (iAt J k).tx
      · exact he
      · exact absurd (fun j hj e => he ⟨j, hj, e⟩) hn
  have hsz := Maps.size_put (k := .string (iAt J k).tx) hT (.lit (.int .i64 (iAt J k).id))
  have hle := h.le
  refine ⟨fun l => ?_, fun ht j hj z => ?_, ?_, ?_⟩
  · by_cases e : l = (iAt J k).tx
    · subst e
      rw [Maps.has_put_same hT.isMap hk]
      exact ⟨fun _ => ⟨k, by omega, rfl⟩, fun _ => rfl⟩
    · rw [Maps.has_put_other (by intro h; apply e; injection h), h.has]
      constructor
      · rintro ⟨j, hj, e2⟩; exact ⟨j, by omega, e2⟩
      · rintro ⟨j, hj, e2⟩
        have : j ≠ k := fun e3 => e (by rw [← e2, e3])
        exact ⟨j, by omega, e2⟩
  · by_cases e : j = k
    · subst e; exact Maps.atKey_put_same hT.isMap hk _ _
    · have hjk : (iAt J j).tx ≠ (iAt J k).tx := ht j k (by omega) (by omega)
      rw [Maps.atKey_put_other (by intro h; apply hjk; injection h)]
      exact h.idAt (fun a b hab hb => ht a b hab (by omega)) j (by omega) z
  · rw [hsz]; split <;> omega
  · rw [hsz]
    by_cases hh : Maps.has D (.string (iAt J k).tx) = true
    · rw [if_pos hh]
      constructor
      · intro e; omega
      · intro ht
        exact absurd (fun j hj => ht j k hj (by omega)) (hnew.1 hh)
    · rw [if_neg hh]
      constructor
      · intro e a b hab hb
        by_cases eb : b = k
        · subst eb
          intro e2
          exact hh ((h.has _).2 ⟨a, hab, e2⟩)
        · exact h.all.1 (by omega) a b hab (by omega)
      · intro ht
        have := h.all.2 (fun a b hab hb => ht a b hab (by omega))
        omega
/-- facts that are right are told apart by their texts -/
theorem texts_dist {J : List It} (h : ∀ k, k < J.length → factB (iAt J k).kd (iAt J k).L = true) : Texts J J.length ↔ Dist J := by
  have key : ∀ i j, i < J.length → j < J.length → ((iAt J i).tx = (iAt J j).tx ↔ (iAt J i).same (iAt J j).kd (iAt J j).L = true) := fun i j hi hj => by
    have := sameF_text (h i hi) (h j hj)
    unfold It.same It.tx
    rw [this, decide_eq_true_iff]
    exact ⟨fun e => ByteArray.ext (Array.toList_inj.1 e), fun e => by rw [e]⟩
  constructor
  · intro ht i j hij hj
    have := ht i j hij hj
    rw [Ne, key i j (by omega) hj] at this
    simpa using this
  · intro hd i j hij hj e
    rw [key i j (by omega) hj, hd i j hij hj] at e
    cases e
theorem tx_len {kd : ByteArray} {L : List V3} (h : factB kd L = true) : (factT kd L).size ≤ 200 := by
  obtain ⟨n1, h5, o1⟩ := factB_open h
  have h1 := name_size n1
  have h2 := joinV_le o1
  have e : (factT kd L).size = (factT kd L).data.toList.length := by rw [Array.length_toList]; rfl
  have e2 : kd.data.toList.length = kd.size := by rw [Array.length_toList]; rfl
  rw [e, factT_list h]
  simp only [List.length_append, List.length_cons, List.length_nil]
  omega

theorem lawT : Maps.Keyed Tryd.prog 9 := Maps.string_keyed Tryd.underlying9
theorem run_makeMapN (n : Nat) (W : World) (h : n ≤ 1048580) : (Instr.makeMap 73 (some (.int .i64 (n : Int)))).run Tryd.prog W = .ok (.map (some W.heap.size)) (W.alloc (.map #[] 0)) := by
  simp [Instr.makeMap, run_underlying Tryd.underlying73, asInt, newObj, Result.andThen]
  rfl

theorem box_drw {w w' : World} {R : Nat} {o : Obj} (h : w.heap[R]? = some o) (hb : Below w.drew.heap.size w.drew w') : w'.heap[R]? = some o := box_step (w := w.drew) h hb
theorem ownsMap_below {w w' : World} {B n : Nat} {D : DataW Unit} (h : w.ownsMap Tryd.prog 9 rI B n D) (hb : Below w.heap.size w w') : w'.ownsMap Tryd.prog 9 rI B n D := by
  have hl := h.lt
  obtain ⟨es, c, h1, r⟩ := h
  exact ⟨es, c, by rw [hb.block B hl]; exact h1, r⟩
theorem ownsMap_drew {w w' : World} {B n : Nat} {D : DataW Unit} (h : w.ownsMap Tryd.prog 9 rI B n D) (hb : Below w.drew.heap.size w.drew w') : w'.ownsMap Tryd.prog 9 rI B n D := ownsMap_below (w := w.drew) h hb

set_option maxRecDepth 100000 in
set_option maxHeartbeats 6400000 in
theorem byText_any (a : Option Addr) (n cap : Nat) (J : List It) (w : World) (hr : RdI w a J) (hJ : J.length = n) (hn : n ≤ 1000) (hok : ∀ i, i < J.length → factB (iAt J i).kd (iAt J i).L = true) (hs : ∀ i, i < J.length → okI (iAt J i)) (ht : Tab w) :
    Calls Tryd.prog 42 #[.slice a n cap] w fun e w' => ∃ B D, e = .returned (.map (some B)) ∧ w'.ownsMap Tryd.prog 9 rI B n D ∧ MapOf J n D ∧ Below w.heap.size w w' := by
  have HJ := hide hJ
  have HOk := hide hok
  have HS := hide hs
  have HTab := hide ht
  clear hJ hok hs ht
  have hmm := fun W => run_makeMapN n W (by omega)
  have b0 := below_al w (.map #[] 0)
  have ho0 := World.ownsMap_made w Tryd.prog 9 rI
  have hz0 : w.heap.size < (w.alloc (.map #[] 0)).heap.size := by simp
  go_enter Tryd.func42, Tryd.ntmps42
  go_wp2
  generalize w.alloc (.map #[] 0) = w1 at b0 ho0 hz0 ⊢
  go_loopw [11] (fun i wr => ∃ (k : Nat) (D : DataW Unit), k ≤ n ∧ i = .int .i64 k ∧ wr.ownsMap Tryd.prog 9 rI w.heap.size k D ∧ MapOf J k D ∧ Below w.heap.size w wr ∧ w.heap.size < wr.heap.size) (fun i _ => n - (intOf i).toNat)
  case atStart => exact ⟨0, .map [], Nat.zero_le _, rfl, ho0, MapOf.zero J, b0, hz0⟩
  case round =>
    clear b0 ho0 hz0
    obtain ⟨k, D, hk, rfl, hown, hmap, hbel, hsz⟩ := hrel
    have HMap := hide hmap
    have HOwn := hide hown
    clear hmap hown
    by_cases hlt : k < n
    · obtain ⟨b2, o2, e2, hbw2, hc2⟩ := (hr.below hbel).open (by rw [HJ.out]; omega)
      obtain ⟨c0, c1, c2, hv⟩ := hc2 k (by rw [HJ.out]; exact hlt)
      have HOkk := hide (HOk.out k (by rw [HJ.out]; exact hlt))
      have HSk := hide (HS.out k (by rw [HJ.out]; exact hlt))
      have HStep := hide (HMap.out.step (HOwn.out.tidy lawT))
      clear hc2
      subst e2
      obtain ⟨x, hx⟩ : ∃ x, x = iAt J k := ⟨_, rfl⟩
      rw [← hx] at c0 c1 c2 hv HOkk HSk HStep
      clear hx
      obtain ⟨id, kd, va, vc, L⟩ := x
      simp only [It.tx] at c0 c1 c2 hv HOkk HSk HStep
      have ba := below_al wr (.cells #[.int .i64 id, .string kd, .slice va L.length vc] 54)
      have hBox := box_new wr (.int .i64 id) (.string kd) (.slice va L.length vc) 54
      have hB1 : Below w.heap.size w (wr.alloc (.cells #[.int .i64 id, .string kd, .slice va L.length vc] 54)) := hbel.trans (ba.mono hbel.size)
      have ho1 := ownsMap_below HOwn.out ba
      have hv1 := hv.below ba
      have hz1 : w.heap.size < (wr.alloc (.cells #[.int .i64 id, .string kd, .slice va L.length vc] 54)).heap.size := Nat.lt_of_lt_of_le hsz ba.size
      have hl5 : L.length ≤ 1048580 := by have := (factB_open HOkk.out).2.1; omega
      go_wp2_with fail
      generalize wr.alloc (.cells #[.int .i64 id, .string kd, .slice va L.length vc] 54) = w2 at hBox hB1 ho1 hv1 hz1 ba ⊢
      have HBox := hide hBox
      have HO1 := hide ho1
      obtain ⟨x0, x1, x2, -, -, -⟩ := box_cell hBox
      have hvd : RdV w2.drew va L := hv1.heap rfl
      have htd : Tab w2.drew := HTab.out.later hB1.drew (Nat.le_refl _)
      clear ba hBox ho1 c0 c1 c2 hv hv1
      go_region_with (first | (go_at_call 43; refine (implFactText_any kd va vc L _ HSk.out.1 hvd HSk.out.2.2 hl5 htd).mono ?_; rintro e w3 ⟨rfl, hb3⟩; obtain ⟨y0, y1, y2, -, -, -⟩ := box_cell (box_drw HBox.out hb3); obtain ⟨w4, hrun4, hown4, hg4⟩ := (ownsMap_drew HO1.out hb3).update (t := 73) lawT Tryd.underlying73 (by unfold maxLen; omega) (Go.WideMaps.keyOf_string_mk Tryd.underlying9 (s := factT kd L) (by have := tx_len HOkk.out; unfold maxLen; omega)) (rI_mk id kd va L.length vc)))
      all_goals
        have HOwn4 := hide hown4
        have hb3' : Below w2.heap.size w2 w3 := below_dr hb3
        have B3 : Below w.heap.size w w3 := hB1.trans (hb3'.mono hB1.size)
        have B4 : Below w.heap.size w w4 := B3.grown hg4 B3.size (fun k hk => by cases hk; exact Nat.le_refl _)
        have hz4 : w.heap.size < w4.heap.size := Nat.lt_of_lt_of_le hz1 (Nat.le_trans hb3'.size hg4.size)
        clear hown4 hg4 hrun4 hb3 hb3' y0 y1 y2 x0 x1 x2 B3
        go_wp2
        go_roundw
        case rel => exact ⟨k + 1, _, by omega, by go_num, HOwn4.out, HStep.out, B4, hz4⟩
        case measure => simp [intOf]; omega
    · obtain rfl : k = n := by omega
      go_wp2
      go_ret
      exact ⟨_, D, rfl, HOwn.out, HMap.out, hbel⟩
end Go.Proofs.YtaflokfgbmlmaadDoor
/-
  What the tested StoreOk answers: storeB.
-/
namespace Go.Proofs.YtaflokfgbmlmaadDoor
open Go.RowKit
set_option linter.unusedVariables false

theorem ok_right {J : List It} {nx : Int} (h0 : 1 ≤ nx ∧ nx ≤ 1000000 ∧ J.length ≤ 40) (h : ∀ k, k < J.length → okAt J nx k) {D : DataW Unit} (hm : MapOf J J.length D) : (((Maps.size D : Nat) : Int) == ((J.length : Nat) : Int)) = storeB nx J := by
  have hd := texts_dist (J := J) (fun k hk => (h k hk).2.2)
  rw [Bool.eq_iff_iff, storeB_iff]
  constructor
  · intro e
    have e2 : Maps.size D = J.length := by have h := beq_iff_eq.1 e; omega
    exact ⟨h0, h, hd.1 (hm.all.1 e2)⟩
  · intro hr
    have : Maps.size D = J.length := hm.all.2 (hd.2 hr.2.2)
    simp [this]

set_option maxRecDepth 100000 in
set_option maxHeartbeats 6400000 in
theorem itemsOk_any (a : Option Addr) (n cap : Nat) (nx : Int) (J : List It) (w : World) (hr : RdI w a J) (hJ : J.length = n) (h0 : 1 ≤ nx ∧ nx ≤ 1000000 ∧ n ≤ 40) (hs : ∀ i, i < J.length → okI (iAt J i)) (hl : ∀ i, i < J.length → (iAt J i).L.length ≤ 1048580) (ht : Tab w) :
    Calls Tryd.prog 34 #[.slice a n cap, .int .i64 nx] w fun e w' => e = .returned (.bool (storeB nx J)) ∧ Below w.heap.size w w' := by
  have HJ := hide hJ
  have HS := hide hs
  have HL := hide hl
  have HTab := hide ht
  have H0 := hide h0
  have hn := h0.2.2
  clear hJ hs hl ht h0
  go_enter Tryd.func34, Tryd.ntmps34
  go_wp2
  go_loopw [5, 10] (fun l i wr => ∃ (k : Nat), k ≤ n ∧ i = .int .i64 k ∧ l = .int .i64 (prevId J k) ∧ (∀ j, j < k → okAt J nx j) ∧ Below w.heap.size w wr) (fun _ i _ => n - (intOf i).toNat)
  case atStart => exact ⟨0, Nat.zero_le _, rfl, rfl, fun j hj => absurd hj (Nat.not_lt_zero _), Below.refl _ _⟩
  case round =>
    obtain ⟨k, hk, rfl, rfl, hok, hbel⟩ := hrel
    have HOk := hide hok
    clear hok
    by_cases hlt : k < n
    · obtain ⟨b2, o2, e2, hbw2, hc2⟩ := (hr.below hbel).open (by rw [HJ.out]; omega)
      obtain ⟨c0, c1, c2, hv⟩ := hc2 k (by rw [HJ.out]; exact hlt)
      have hkJ : k < J.length := by rw [HJ.out]; exact hlt
      have HSk := hide (HS.out k hkJ)
      have HLk := hide (HL.out k hkJ)
      have HW : Hid (¬ okAt J nx k → storeB nx J = false) := wrong_at hkJ
      have HOkk : Hid (prevId J k < (iAt J k).id → (iAt J k).id < nx → factB (iAt J k).kd (iAt J k).L = true → okAt J nx k) := fun h1 h2 h3 => ⟨h1, h2, h3⟩
      have HNo : Hid (¬ (prevId J k < (iAt J k).id ∧ (iAt J k).id < nx ∧ factB (iAt J k).kd (iAt J k).L = true) → ¬ okAt J nx k) := fun h1 h2 => h1 h2
      have HPrev : Hid (prevId J (k + 1) = (iAt J k).id) := by unfold Hid prevId; rw [if_neg (by omega)]; rfl
      clear hc2 hkJ
      subst e2
      obtain ⟨p, hp⟩ : ∃ p, p = prevId J k := ⟨_, rfl⟩
      rw [← hp] at HOkk HNo ⊢
      clear hp
      generalize iAt J k = x at c0 c1 c2 hv HSk HLk HOkk HNo HPrev
      obtain ⟨id, kd, va, vc, L⟩ := x
      simp only at c0 c1 c2 hv HSk HLk HOkk HNo HPrev
      have ba := below_al wr (.cells #[.int .i64 id, .string kd, .slice va L.length vc] 54)
      have HBox := hide (box_new wr (.int .i64 id) (.string kd) (.slice va L.length vc) 54)
      have hB1 : Below w.heap.size w (wr.alloc (.cells #[.int .i64 id, .string kd, .slice va L.length vc] 54)) := hbel.trans (ba.mono hbel.size)
      by_cases h1 : id ≤ p
      · have HF := hide (HW.out (HNo.out (fun h => by omega)))
        go_wp2
        go_ret
        exact ⟨ret_bool HF.out.symm, hB1⟩
      · by_cases h2 : nx ≤ id
        · have HF := hide (HW.out (HNo.out (fun h => by omega)))
          go_wp2
          go_ret
          exact ⟨ret_bool HF.out.symm, hB1⟩
        · go_wp2_with fail
          refine (implFactOk_any kd va vc L _ HSk.out.1 (hv.below ba) HSk.out.2.2 HLk.out).mono ?_
          rintro e w2 ⟨rfl, hb2⟩
          have hB2 : Below w.heap.size w w2 := hB1.trans (hb2.mono hB1.size)
          obtain ⟨y0, -, -, -, -, -⟩ := box_cell (box_below HBox.out hb2 (by simp))
          clear hb2 ba hB1 c0 c1 c2 hv
          cases hf : factB kd L
          · have HF := hide (HW.out (HNo.out (fun h => by rw [hf] at h; exact absurd h.2.2 (by simp))))
            clear hf
            go_wp2
            go_ret
            exact ⟨ret_bool HF.out.symm, hB2⟩
          · have HO2 := hide (HOkk.out (by omega) (by omega) hf)
            clear hf
            go_wp2
            go_roundw
            case rel => exact ⟨k + 1, by omega, by go_num, by rw [HPrev.out], fun j hj => by
              by_cases hjk : j = k
              · rw [hjk]; exact HO2.out
              · exact HOk.out j (by omega), hB2⟩
            case measure => simp [intOf]; omega
    · obtain rfl : k = n := by omega
      have HAll : Hid (∀ j, j < J.length → okAt J nx j) := fun j hj => HOk.out j (by rw [HJ.out] at hj; exact hj)
      have hr2 := hr.below hbel
      have ht2 := HTab.out.later hbel (Nat.le_refl _)
      go_wp2_with fail
      refine (byText_any a k cap J wr hr2 HJ.out (by omega) (fun i hi => (HAll.out i hi).2.2) HS.out ht2).mono ?_
      rintro e w2 ⟨B, D, rfl, hown, hmap, hb2⟩
      have hB2 : Below w.heap.size w w2 := hbel.trans (hb2.mono hbel.size)
      have HR : Hid ((((Maps.size D : Nat) : Int) == ((k : Nat) : Int)) = storeB nx J) := by
        have := HJ.out
        unfold Hid
        rw [← this] at hmap ⊢
        exact ok_right (by rw [this]; exact H0.out) HAll.out hmap
      have hlen := fun ty => hown.len (t := 73) Tryd.underlying73 ty
      clear hmap hown hb2
      go_wp2
      go_ret
      exact ⟨ret_bool HR.out, hB2⟩

set_option maxRecDepth 100000 in
set_option maxHeartbeats 6400000 in
theorem implStoreOk_any (a : Option Addr) (n cap : Nat) (nx : Int) (J : List It) (w : World) (hr : RdI w a J) (hJ : J.length = n) (hn : n ≤ 1048580) (hs : ∀ i, i < J.length → okI (iAt J i)) (hl : ∀ i, i < J.length → (iAt J i).L.length ≤ 1048580) (ht : Tab w) :
    Calls Tryd.prog 10 #[.agg #[.slice a n cap, .int .i64 nx]] w fun e w' => e = .returned (.bool (storeB nx J)) ∧ Below w.heap.size w w' := by
  have b0 := below_al w (.cells #[.slice a n cap, .int .i64 nx] 29)
  have HNo : Hid (¬ (1 ≤ nx ∧ nx ≤ 1000000 ∧ n ≤ 40) → storeB nx J = false) := fun h => storeB_no (fun hr => h (by rw [← hJ]; exact hr.1))
  by_cases h1 : 1 ≤ nx
  · by_cases h2 : nx ≤ 1000000
    · by_cases h3 : n ≤ 40
      · obtain ⟨r, hR⟩ : ∃ r, storeB nx J = r := ⟨_, rfl⟩
        have HR := hide hR
        clear hR
        go_enter Tryd.func10, Tryd.ntmps10
        go_wp2_with fail
        refine (itemsOk_any a n cap nx J _ (hr.below b0) hJ ⟨h1, h2, h3⟩ hs hl (ht.later b0 (Nat.le_refl _))).mono ?_
        rw [HR.out]
        rintro e w1 ⟨rfl, hb⟩
        have hB : Below w.heap.size w w1 := b0.trans (hb.mono b0.size)
        go_wp2
        go_ret
        exact ⟨ret_bool HR.out.symm, hB⟩
      · have HF := hide (HNo.out (by omega))
        have h4 : ¬ ((n : Int) ≤ 40) := by omega
        go_enter Tryd.func10, Tryd.ntmps10
        go_wp2
        go_ret
        exact ⟨ret_bool HF.out.symm, b0⟩
    · have HF := hide (HNo.out (by omega))
      go_enter Tryd.func10, Tryd.ntmps10
      go_wp2
      go_ret
      exact ⟨ret_bool HF.out.symm, b0⟩
  · have HF := hide (HNo.out (by omega))
    go_enter Tryd.func10, Tryd.ntmps10
    go_wp2
    go_ret
    exact ⟨ret_bool HF.out.symm, b0⟩
end Go.Proofs.YtaflokfgbmlmaadDoor
/-
  The contracts of the laws' own comparison of items and stores: what is plainly the same is found the same.
-/
namespace Go.Proofs.YtaflokfgbmlmaadDoor
open Go.RowKit
set_option linter.unusedVariables false

set_option maxRecDepth 100000 in
set_option maxHeartbeats 1600000 in
theorem eqItem_same (id : Int) (kd : ByteArray) (a b : Option Addr) (ca cb : Nat) (L : List V3) (w : World) (hr : RdV w a L) (hq : RdV w b L) (hn : L.length ≤ 1048580) :
    Calls Tryd.prog 61 #[.agg #[.int .i64 id, .string kd, .slice a L.length ca], .agg #[.int .i64 id, .string kd, .slice b L.length cb]] w fun e w' =>
      e = .returned (.bool true) ∧ Below w.heap.size w w' := by
  have k1 : (id != id) = false := by simp
  have b0 := below_al w (.cells #[.int .i64 id, .string kd, .slice a L.length ca] 54)
  have b1 := b0.alloc b0.size (.cells #[.int .i64 id, .string kd, .slice b L.length cb] 54)
  go_enter Tryd.func61, Tryd.ntmps61
  go_wp2_with fail
  refine (eqFact_same kd a b ca cb L _ (hr.below b1) (hq.below b1) hn).mono ?_
  rintro e w1 ⟨rfl, hb⟩
  have hB : Below w.heap.size w w1 := b1.trans (hb.mono b1.size)
  go_wp2
  go_ret
  exact ⟨rfl, hB⟩
theorem eqItem_of (id id' : Int) (kd kd' : ByteArray) (a b : Option Addr) (ca cb : Nat) (L M : List V3) (w : World) (hr : RdV w a L) (hq : RdV w b M) (hn : L.length ≤ 1048580) (h1 : id = id') (h2 : kd = kd') (h3 : L = M) :
    Calls Tryd.prog 61 #[.agg #[.int .i64 id, .string kd, .slice a L.length ca], .agg #[.int .i64 id', .string kd', .slice b M.length cb]] w fun e w' =>
      e = .returned (.bool true) ∧ Below w.heap.size w w' := by subst h1 h2 h3; exact eqItem_same id kd a b ca cb L w hr hq hn
/-- two items in memory, their lists, and all that was there at the head -/
theorem keepI {w0 W w' : World} {B : Nat} {p0 p1 p2 p3 p4 p5 : Addr} {v0 v1 v2 v3 v4 v5 : Value} {a b : Option Addr} {L M : List V3} (hb : Below W.heap.size W w')
    (h : W.cell? p0 = some v0 ∧ W.cell? p1 = some v1 ∧ W.cell? p2 = some v2 ∧ W.cell? p3 = some v3 ∧ W.cell? p4 = some v4 ∧ W.cell? p5 = some v5 ∧ Two w0 B a b L M W) :
    w'.cell? p0 = some v0 ∧ w'.cell? p1 = some v1 ∧ w'.cell? p2 = some v2 ∧ w'.cell? p3 = some v3 ∧ w'.cell? p4 = some v4 ∧ w'.cell? p5 = some v5 ∧ Two w0 B a b L M w' := by
  obtain ⟨h0, h1, h2, h3, h4, h5, h6⟩ := h
  have k : ∀ {a : Addr} {v : Value}, W.cell? a = some v → w'.cell? a = some v := fun {a v} h => by rw [hb.cell (World.block_lt_of_cell? W _ h)]; exact h
  exact ⟨k h0, k h1, k h2, k h3, k h4, k h5, h6.keep hb⟩

set_option maxRecDepth 100000 in
set_option maxHeartbeats 3200000 in
theorem eqItemS_same (a b : Option Addr) (ca cb n : Nat) (J K : List It) (w : World) (hr : RdI w a J) (hq : RdI w b K) (hJ : J.length = n) (hpl : J.map It.pl = K.map It.pl) (hm : n ≤ 1048580) (hl : ∀ i, i < J.length → (iAt J i).L.length ≤ 1048580) :
    Calls Tryd.prog 35 #[.slice a n ca, .slice b n cb] w fun e w' =>
      e = .returned (.bool true) ∧ Below w.heap.size w w' := by
  have HJ := hide hJ
  have HK : Hid (K.length = n) := by unfold Hid; rw [← hJ, pl_len hpl]
  have HP := hide hpl
  have HL := hide hl
  clear hJ hpl hl
  have hnn : ((n : Int) != (n : Int)) = false := by simp
  go_enter Tryd.func35, Tryd.ntmps35
  go_wp2
  go_loopw [5] (fun i wr => ∃ (k : Nat), k ≤ n ∧ i = .int .i64 k ∧ Below w.heap.size w wr) (fun i _ => n - (intOf i).toNat)
  case atStart => exact ⟨0, Nat.zero_le _, rfl, Below.refl _ _⟩
  case round =>
    obtain ⟨k, hk, rfl, hbel⟩ := hrel
    by_cases hlt : k < n
    · obtain ⟨b1, o1, e1, hbw1, hc1⟩ := hr.open (by rw [HJ.out]; omega)
      obtain ⟨b2, o2, e2, hbw2, hc2⟩ := hq.open (by rw [HK.out]; omega)
      obtain ⟨c0, c1, c2, hv1⟩ := hc1 k (by rw [HJ.out]; exact hlt)
      obtain ⟨d0, d1, d2, hv2⟩ := hc2 k (by rw [HK.out]; exact hlt)
      have HP1 := pl_at HP.out (i := k) (by rw [HJ.out]; exact hlt)
      have HLk := hide (HL.out k (by rw [HJ.out]; exact hlt))
      replace hv1 := hv1.below hbel
      replace hv2 := hv2.below hbel
      clear hc1 hc2
      subst e1 e2
      rw [← hbel.cell (p := ⟨b1, o1 + k * 3, none⟩) hbw1] at c0
      rw [← hbel.cell (p := ⟨b1, o1 + k * 3 + 1, none⟩) hbw1] at c1
      rw [← hbel.cell (p := ⟨b1, o1 + k * 3 + 2, none⟩) hbw1] at c2
      rw [← hbel.cell (p := ⟨b2, o2 + k * 3, none⟩) hbw2] at d0
      rw [← hbel.cell (p := ⟨b2, o2 + k * 3 + 1, none⟩) hbw2] at d1
      rw [← hbel.cell (p := ⟨b2, o2 + k * 3 + 2, none⟩) hbw2] at d2
      generalize iAt J k = x at c0 c1 c2 hv1 HP1 HLk
      generalize iAt K k = y at d0 d1 d2 hv2 HP1
      obtain ⟨id, kd, va, vc, L⟩ := x
      obtain ⟨id', kd', vb, wc, M⟩ := y
      simp only at c0 c1 c2 hv1 d0 d1 d2 hv2 HP1 HLk
      obtain ⟨rfl, rfl, rfl⟩ := HP1
      have T0 : Two w w.heap.size va vb L L wr := ⟨hv1, hv2, hbel, hbel.size⟩
      clear hv1 hv2 hbel
      go_wp2_with fail
      go_region_held3 (fun W => W.cell? ⟨b1, o1 + k * 3, none⟩ = some (.int .i64 id) ∧ W.cell? ⟨b1, o1 + k * 3 + 1, none⟩ = some (.string kd) ∧ W.cell? ⟨b1, o1 + k * 3 + 2, none⟩ = some (.slice va L.length vc) ∧ W.cell? ⟨b2, o2 + k * 3, none⟩ = some (.int .i64 id) ∧ W.cell? ⟨b2, o2 + k * 3 + 1, none⟩ = some (.string kd) ∧ W.cell? ⟨b2, o2 + k * 3 + 2, none⟩ = some (.slice vb L.length wc) ∧ Two w w.heap.size va vb L L W) (first | exact ⟨c0, c1, c2, d0, d1, d2, T0.drew⟩ | exact keepI (by assumption) (by assumption))
        (first | (go_at_call 61; refine (eqItem_same _ _ _ _ _ _ _ _ T0.drew.1 T0.drew.2.1 HLk.out).mono ?_; rintro e w2 ⟨rfl, hb⟩))
      all_goals
        obtain ⟨-, -, -, -, -, -, T2⟩ : w2.cell? ⟨b1, o1 + k * 3, none⟩ = some (.int .i64 id) ∧ w2.cell? ⟨b1, o1 + k * 3 + 1, none⟩ = some (.string kd) ∧ w2.cell? ⟨b1, o1 + k * 3 + 2, none⟩ = some (.slice va L.length vc) ∧ w2.cell? ⟨b2, o2 + k * 3, none⟩ = some (.int .i64 id) ∧ w2.cell? ⟨b2, o2 + k * 3 + 1, none⟩ = some (.string kd) ∧ w2.cell? ⟨b2, o2 + k * 3 + 2, none⟩ = some (.slice vb L.length wc) ∧ Two w w.heap.size va vb L L w2 := by assumption
        have hB2 := T2.2.2.1
        go_wp2
        go_roundw
        case rel => exact ⟨k + 1, by omega, by go_num, hB2⟩
        case measure => simp [intOf]; omega
    · go_wp2
      go_ret
      exact ⟨rfl, hbel⟩

set_option maxRecDepth 100000 in
set_option maxHeartbeats 1600000 in
theorem eqStore_same (a b : Option Addr) (ca cb n : Nat) (nx : Int) (J K : List It) (w : World) (hr : RdI w a J) (hq : RdI w b K) (hJ : J.length = n) (hpl : J.map It.pl = K.map It.pl) (hm : n ≤ 1048580) (hl : ∀ i, i < J.length → (iAt J i).L.length ≤ 1048580) :
    Calls Tryd.prog 11 #[.agg #[.slice a n ca, .int .i64 nx], .agg #[.slice b n cb, .int .i64 nx]] w fun e w' =>
      e = .returned (.bool true) ∧ Below w.heap.size w w' := by
  have k1 : (nx != nx) = false := by simp
  have b0 := below_al w (.cells #[.slice a n ca, .int .i64 nx] 29)
  have b1 := b0.alloc b0.size (.cells #[.slice b n cb, .int .i64 nx] 29)
  have hA := box_old (box2_new w (.slice a n ca) (.int .i64 nx) 29) (by simp) (.cells #[.slice b n cb, .int .i64 nx] 29)
  have hC := box2_new (w.alloc (.cells #[.slice a n ca, .int .i64 nx] 29)) (.slice b n cb) (.int .i64 nx) 29
  simp only [World.size_alloc] at hA hC
  go_enter Tryd.func11, Tryd.ntmps11
  go_wp2_with fail
  refine (eqItemS_same a b ca cb n J K _ (hr.below b1) (hq.below b1) hJ hpl hm hl).mono ?_
  rintro e w1 ⟨rfl, hb⟩
  have hB : Below w.heap.size w w1 := b1.trans (hb.mono b1.size)
  obtain ⟨a0, a1, -, -⟩ := box2_cell (box_below hA hb (by simp; omega))
  obtain ⟨d0, d1, -, -⟩ := box2_cell (box_below hC hb (by simp))
  clear hA hC hb b0 b1 hr hq hpl hl
  go_wp2
  go_ret
  exact ⟨rfl, hB⟩
end Go.Proofs.YtaflokfgbmlmaadDoor
/-
  What the model's IdOf answers: the Id of the first item with this fact, 0 where there is none.
-/
namespace Go.Proofs.YtaflokfgbmlmaadDoor
open Go.RowKit
set_option linter.unusedVariables false

set_option maxRecDepth 100000 in
set_option maxHeartbeats 3200000 in
theorem specIdOf_any (a b : Option Addr) (n cap cb : Nat) (nx : Int) (kd : ByteArray) (J : List It) (M : List V3) (w : World) (hr : RdI w a J) (hq : RdV w b M) (hJ : J.length = n) (hn : n ≤ 1048580) (hl : ∀ i, i < J.length → (iAt J i).L.length ≤ 1048580) (hm : M.length ≤ 1048580) :
    Calls Tryd.prog 32 #[.agg #[.slice a n cap, .int .i64 nx], .agg #[.string kd, .slice b M.length cb]] w fun e w' =>
      e = .returned (.int .i64 (idP (J.map It.pl) kd M)) ∧ Below w.heap.size w w' := by
  have HJ := hide hJ
  have HL := hide hl
  clear hJ hl
  have b0 := below_al w (.cells #[.slice a n cap, .int .i64 nx] 29)
  have b1 := b0.alloc b0.size (.cells #[.string kd, .slice b M.length cb] 41)
  have hA := box_old (box2_new w (.slice a n cap) (.int .i64 nx) 29) (by simp) (.cells #[.string kd, .slice b M.length cb] 41)
  have hC := box2_new (w.alloc (.cells #[.slice a n cap, .int .i64 nx] 29)) (.string kd) (.slice b M.length cb) 41
  simp only [World.size_alloc] at hA hC
  obtain ⟨x0, -, -, -⟩ := box2_cell hA
  obtain ⟨y0, y1, -, -⟩ := box2_cell hC
  replace hr := hr.below b1
  replace hq := hq.below b1
  have hz1 := (Array.getElem?_eq_some_iff.1 hA).1
  have hz2 := (Array.getElem?_eq_some_iff.1 hC).1
  go_enter Tryd.func32, Tryd.ntmps32
  go_wp2
  generalize (w.alloc (.cells #[.slice a n cap, .int .i64 nx] 29)).alloc (.cells #[.string kd, .slice b M.length cb] 41) = w1 at b1 hr hq x0 y0 y1 hz1 hz2 ⊢
  clear b0 hA hC
  go_loopw [5] (fun i wr => ∃ (k : Nat), k ≤ n ∧ i = .int .i64 k ∧ (∀ j, j < k → (iAt J j).same kd M = false) ∧ Below w1.heap.size w1 wr) (fun i _ => n - (intOf i).toNat)
  case atStart => exact ⟨0, Nat.zero_le _, rfl, fun j hj => absurd hj (Nat.not_lt_zero _), Below.refl _ _⟩
  case round =>
    obtain ⟨k, hk, rfl, hno, hbel⟩ := hrel
    have HNo := hide hno
    clear hno
    have hB : Below w.heap.size w wr := b1.trans (hbel.mono b1.size)
    rw [← hbel.cell (p := ⟨w.heap.size, 0, none⟩) hz1] at x0
    rw [← hbel.cell (p := ⟨w.heap.size + 1, 0, none⟩) hz2] at y0
    rw [← hbel.cell (p := ⟨w.heap.size + 1, 1, none⟩) hz2] at y1
    by_cases hlt : k < n
    · obtain ⟨b2, o2, e2, hbw2, hc2⟩ := hr.open (by rw [HJ.out]; omega)
      obtain ⟨c0, c1, c2, hv⟩ := hc2 k (by rw [HJ.out]; exact hlt)
      have HLk := hide (HL.out k (by rw [HJ.out]; exact hlt))
      replace hv := hv.below hbel
      have hq2 := hq.below hbel
      clear hc2
      subst e2
      rw [← hbel.cell (p := ⟨b2, o2 + k * 3, none⟩) hbw2] at c0
      rw [← hbel.cell (p := ⟨b2, o2 + k * 3 + 1, none⟩) hbw2] at c1
      rw [← hbel.cell (p := ⟨b2, o2 + k * 3 + 2, none⟩) hbw2] at c2
      obtain ⟨x, hx⟩ : ∃ x, x = iAt J k := ⟨_, rfl⟩
      rw [← hx] at c0 c1 c2 hv HLk
      have HX := hide hx
      clear hx
      obtain ⟨id, kd', va, vc, L⟩ := x
      simp only at c0 c1 c2 hv HLk
      have T0 : Two w w.heap.size va b L M wr := ⟨hv, hq2, hB, hB.size⟩
      clear hv hq2
      have HSm : Hid ((iAt J k).same kd M = sameF kd' L kd M) := by unfold Hid; rw [← HX.out]; rfl
      have HId : Hid ((iAt J k).id = id) := by unfold Hid; rw [← HX.out]
      cases hs : sameF kd' L kd M
      · have HS := hide hs
        clear hs
        go_wp2_with fail
        go_region_held3 (fun W => W.cell? ⟨w.heap.size, 0, none⟩ = some (.slice (some ⟨b2, o2, none⟩) n cap) ∧ W.cell? ⟨w.heap.size + 1, 0, none⟩ = some (.string kd) ∧ W.cell? ⟨w.heap.size + 1, 1, none⟩ = some (.slice b M.length cb) ∧ W.cell? ⟨b2, o2 + k * 3, none⟩ = some (.int .i64 id) ∧ W.cell? ⟨b2, o2 + k * 3 + 1, none⟩ = some (.string kd') ∧ W.cell? ⟨b2, o2 + k * 3 + 2, none⟩ = some (.slice va L.length vc) ∧ Two w w.heap.size va b L M W) (first | exact ⟨x0, y0, y1, c0, c1, c2, T0.drew⟩ | exact keepI (by assumption) (by assumption))
          (first | (go_at_call 59; refine (specSameFact_any _ _ _ _ _ _ _ _ _ T0.drew.1 T0.drew.2.1 HLk.out hm).mono ?_; rw [HS.out]; rintro e w2 ⟨rfl, hb⟩))
        all_goals
          have hb2 : Below w1.heap.size w1 w2 := hbel.trans ((below_dr hb).mono hbel.size)
          go_wp2
          go_roundw
          case rel => exact ⟨k + 1, by omega, by go_num, fun j hj => by
            by_cases hjk : j = k
            · rw [hjk, HSm.out]; exact HS.out
            · exact HNo.out j (by omega), hb2⟩
          case measure => simp [intOf]; omega
      · have HS := hide hs
        clear hs
        go_wp2_with fail
        go_region_held3 (fun W => W.cell? ⟨w.heap.size, 0, none⟩ = some (.slice (some ⟨b2, o2, none⟩) n cap) ∧ W.cell? ⟨w.heap.size + 1, 0, none⟩ = some (.string kd) ∧ W.cell? ⟨w.heap.size + 1, 1, none⟩ = some (.slice b M.length cb) ∧ W.cell? ⟨b2, o2 + k * 3, none⟩ = some (.int .i64 id) ∧ W.cell? ⟨b2, o2 + k * 3 + 1, none⟩ = some (.string kd') ∧ W.cell? ⟨b2, o2 + k * 3 + 2, none⟩ = some (.slice va L.length vc) ∧ Two w w.heap.size va b L M W) (first | exact ⟨x0, y0, y1, c0, c1, c2, T0.drew⟩ | exact keepI (by assumption) (by assumption))
          (first | (go_at_call 59; refine (specSameFact_any _ _ _ _ _ _ _ _ _ T0.drew.1 T0.drew.2.1 HLk.out hm).mono ?_; rw [HS.out]; rintro e w2 ⟨rfl, hb⟩))
        all_goals
          have hB2 : Below w.heap.size w w2 := hB.trans ((below_dr hb).mono hB.size)
          obtain ⟨z0, z1, z2, z3, z4, z5, -⟩ := keepI (below_dr hb) ⟨x0, y0, y1, c0, c1, c2, T0⟩
          have HI : Hid (idP (J.map It.pl) kd M = id) := by
            unfold Hid
            rw [idP_hit (k := k) (by rw [HJ.out]; exact hlt) HNo.out (by rw [HSm.out]; exact HS.out), HId.out]
          go_wp2
          go_ret
          exact ⟨ret_int HI.out.symm, hB2⟩
    · have HI : Hid (idP (J.map It.pl) kd M = 0) := idP_none (fun j hj => HNo.out j (by rw [HJ.out] at hj; omega))
      go_wp2
      go_ret
      exact ⟨ret_int HI.out.symm, hB⟩
end Go.Proofs.YtaflokfgbmlmaadDoor
