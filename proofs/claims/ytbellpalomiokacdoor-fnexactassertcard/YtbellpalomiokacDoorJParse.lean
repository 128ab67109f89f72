/-
  What ParseVal answers, the tested one and the model's alike: parseO.
-/
import Derived.Test.YtbellpalomiokacDoorJoined1
import Derived.Test.YtbellpalomiokacDoorJParseS
namespace Go.Proofs.YtbellpalomiokacDoor
open Go.RowKit Go.Lib
set_option linter.unusedVariables false

def quotedB (s : ByteArray) : Bool := decide (2 ≤ s.size) && (bat s 0 == 39) && (bat s (s.size - 1) == 39)
/-- the value that a text is read as -/
def parseO (s : ByteArray) : Option V3 :=
  if quotedB s then (if valB 2 0 (s.extract 1 (s.size - 1)) then some ⟨2, 0, s.extract 1 (s.size - 1)⟩ else none)
  else (numV s.data.toList).map fun n => ⟨1, n, ⟨#[]⟩⟩
/-- the answer, as the call gives it -/
def ansO : Option V3 → Value
  | some v => .tuple #[.agg #[.int .i64 v.K, .int .i64 v.N, .string v.S], .bool true]
  | none => .tuple #[.agg #[.int .i64 0, .int .i64 0, .string ⟨#[]⟩], .bool false]
theorem ansV_f (K N : Int) (S : ByteArray) : ansV false K N S = ansO none := rfl
theorem ansV_t (K N : Int) (S : ByteArray) : ansV true K N S = ansO (some ⟨K, N, S⟩) := rfl
theorem parseO_q {s : ByteArray} (h : quotedB s = true) : ansO (parseO s) = ansV (valB 2 0 (s.extract 1 (s.size - 1))) 2 0 (s.extract 1 (s.size - 1)) := by
  unfold parseO; rw [if_pos h]
  cases valB 2 0 (s.extract 1 (s.size - 1)) <;> rfl
theorem parseO_n {s : ByteArray} (h : quotedB s = false) : ansO (parseO s) = ansN (numV s.data.toList) := by
  unfold parseO; rw [if_neg (by simp [h])]
  cases numV s.data.toList <;> rfl
theorem quotedB_iff {s : ByteArray} : quotedB s = true ↔ 2 ≤ s.size ∧ bat s 0 = 39 ∧ bat s (s.size - 1) = 39 := by
  simp [quotedB, and_assoc]

theorem specParse_any (s : ByteArray) (w : World) (hs : s.size ≤ 1048576) :
    Calls Tryd.prog 85 #[.string s] w fun e w' => e = .returned (ansO (parseO s)) ∧ Below w.heap.size w w' := by
  have hl : s.data.toList.length = s.size := by rw [Array.length_toList]; rfl
  by_cases h1 : 2 ≤ s.size
  · by_cases h0 : bat s 0 = 39
    · by_cases h2 : bat s (s.size - 1) = 39
      · rw [parseO_q (quotedB_iff.2 ⟨h1, h0, h2⟩)]
        rw [bat_in (by omega)] at h0 h2
        exact specParse_quote s w hs (by omega) (by simpa using h0) (by simpa using h2)
      · rw [parseO_n (Bool.eq_false_iff.2 (fun h => h2 (quotedB_iff.1 h).2.2))]
        rw [bat_in (by omega)] at h0 h2
        have hh : ¬ (1 < s.data.toList.length ∧ s.data.toList.head? = some 45) := by
          rintro ⟨_, h⟩
          rw [head_of (by omega), Option.some.injEq] at h
          rw [h] at h0; exact absurd h0 (by decide)
        exact specParse_half s w hs (by omega) (by simpa using h0) (by simpa using h2) (by simp; omega) (fun m hm => numV_plain hh hm)
    · rw [parseO_n (Bool.eq_false_iff.2 (fun h => h0 (quotedB_iff.1 h).2.1))]
      rw [bat_in (by omega)] at h0
      by_cases h3 : (s[0]'(by omega)) = 45
      · refine specParse_minus s w hs (by omega) (by simpa using h0) (by rw [h3]; rfl) (fun m hm => numV_minus (by omega) (by rw [head_of (by omega), h3]) (by rw [← tail_of]; exact hm))
      · have hh : ¬ (1 < s.data.toList.length ∧ s.data.toList.head? = some 45) := by
          rintro ⟨_, h⟩
          rw [head_of (by omega), Option.some.injEq] at h
          exact h3 h
        have h4 : ¬ (((s[0]'(by omega)).toNat : Int) = 45) := fun e => h3 (UInt8.toNat_inj.1 (by have : (45 : UInt8).toNat = 45 := rfl; omega))
        exact specParse_plain s w hs (by omega) (by simpa using h0) (by simpa using h4) (fun m hm => numV_plain hh hm)
  · rw [parseO_n (Bool.eq_false_iff.2 (fun h => h1 (quotedB_iff.1 h).1))]
    exact specParse_short s w hs (by omega) (fun m hm => numV_plain (by omega) hm)

theorem inner_of {s : ByteArray} (h1 : 2 ≤ s.size) (h0 : bat s 0 = 39) (h2 : bat s (s.size - 1) = 39) : (⟨#[39]⟩ ++ s.extract 1 (s.size - 1) ++ ⟨#[39]⟩ : ByteArray) = s := by
  have e : (s.extract 1 (s.size - 1)).size = s.size - 2 := by rw [ByteArray.size_extract]; omega
  have e1 : (⟨#[39]⟩ : ByteArray).size = 1 := rfl
  apply ByteArray.ext_getElem
  · simp only [ByteArray.size_append, e, e1]; omega
  · intro i hi hi'
    rw [bat_in (by omega)] at h0 h2
    have x0 : (s[0]'(by omega)) = 39 := UInt8.toNat_inj.1 (by have : (39 : UInt8).toNat = 39 := rfl; omega)
    have x2 : (s[s.size - 1]'(by omega)) = 39 := UInt8.toNat_inj.1 (by have : (39 : UInt8).toNat = 39 := rfl; omega)
    by_cases ha : i = 0
    · subst ha
      rw [ByteArray.getElem_append_left (by simp only [ByteArray.size_append, e, e1]; omega), ByteArray.getElem_append_left (by rw [e1]; omega), x0]; rfl
    · by_cases hb : i = s.size - 1
      · subst hb
        rw [ByteArray.getElem_append_right (by simp only [ByteArray.size_append, e, e1]; omega), x2]
        have : s.size - 1 - (⟨#[39]⟩ ++ s.extract 1 (s.size - 1) : ByteArray).size = 0 := by simp only [ByteArray.size_append, e, e1]; omega
        simp only [this]; rfl
      · rw [ByteArray.getElem_append_left (by simp only [ByteArray.size_append, e, e1]; omega), ByteArray.getElem_append_right (by rw [e1]; omega), ByteArray.getElem_extract]
        congr 1
        rw [e1]; omega
theorem inner_last {s S : ByteArray} (h : (⟨#[39]⟩ ++ S ++ ⟨#[39]⟩ : ByteArray) = s) : bat s (s.size - 1) = 39 := by
  subst h
  have e1 : (⟨#[39]⟩ : ByteArray).size = 1 := rfl
  rw [bat_in (by simp only [ByteArray.size_append, e1]; omega)]
  rw [ByteArray.getElem_append_right (by simp only [ByteArray.size_append, e1]; omega)]
  have : (⟨#[39]⟩ ++ S ++ ⟨#[39]⟩ : ByteArray).size - 1 - (⟨#[39]⟩ ++ S : ByteArray).size = 0 := by simp only [ByteArray.size_append, e1]; omega
  simp only [this]; rfl

theorem implParse_any (s : ByteArray) (w : World) (hs : s.size ≤ 1048576) (ht : Tab w) (he : Errs w) :
    Calls Tryd.prog 134 #[.string s] w fun e w' => e = .returned (ansO (parseO s)) ∧ Below w.heap.size w w' := by
  by_cases h1 : 2 ≤ s.size ∧ bat s 0 = 39
  · obtain ⟨h1, h0⟩ := h1
    have hsz : (s.extract 1 (s.size - 1)).size ≤ maxLen := by rw [ByteArray.size_extract]; unfold maxLen; omega
    have h0' := h0
    rw [bat_in (by omega)] at h0'
    have := implParse_of s 2 0 (s.extract 1 (s.size - 1)) w hsz ht (fun W hW => looseVal_quote s W hs h1 h0')
    by_cases h2 : bat s (s.size - 1) = 39
    · rw [parseO_q (quotedB_iff.2 ⟨h1, h0, h2⟩)]
      cases hv : valB 2 0 (s.extract 1 (s.size - 1))
      · rw [hv] at this; exact this
      · rw [hv, textV_text hv (by decide), decide_eq_true (inner_of h1 h0 h2)] at this
        exact this
    · rw [parseO_n (Bool.eq_false_iff.2 (fun h => h2 (quotedB_iff.1 h).2.2))]
      have hn : numV s.data.toList = none := by
        have hd := head_of (s := s) (by omega)
        cases hl : s.data.toList with
        | nil => rw [hl] at hd; simp at hd
        | cons c r =>
          rw [hl] at hd
          simp only [List.head?_cons, Option.some.injEq] at hd
          exact numV_head (by rw [hd]; omega)
      rw [hn]
      cases hv : valB 2 0 (s.extract 1 (s.size - 1))
      · rw [hv] at this; exact this
      · rw [hv, textV_text hv (by decide), decide_eq_false (fun e => h2 (inner_last e))] at this
        exact this
  · rw [parseO_n (Bool.eq_false_iff.2 (fun h => h1 ⟨(quotedB_iff.1 h).1, (quotedB_iff.1 h).2.1⟩))]
    have h2 : s.size < 2 ∨ bat s 0 ≠ 39 := by
      by_cases h : s.size < 2
      · exact .inl h
      · exact .inr (fun e => h1 ⟨by omega, e⟩)
    have hz : (ByteArray.mk #[]).size ≤ maxLen := by unfold maxLen; decide
    by_cases hn : ∃ n, atoiAll s.data.toList = .ok n
    · obtain ⟨n, hn⟩ := hn
      have := implParse_of s 1 n ⟨#[]⟩ w hz ht (fun W hW => looseVal_ok s W n hs h2 hn)
      have hk := loose_ok hn
      cases hv : numV s.data.toList with
      | none =>
        have : (valB 1 n ⟨#[]⟩ && decide (textV 1 n ⟨#[]⟩ = s)) = false := by
          rw [Bool.eq_false_iff]; intro h
          rw [Bool.and_eq_true, decide_eq_true_iff] at h
          rw [hk.1 h] at hv; cases hv
        rename_i h'
        rw [this] at h'; exact h'
      | some m =>
        obtain rfl := loose_only hn hv
        have h3 := hk.2 hv
        rw [h3.1, decide_eq_true h3.2] at this
        exact this
    · have hn' : ∀ n, atoiAll s.data.toList ≠ .ok n := fun n h => hn ⟨n, h⟩
      have := implParse_of s 0 0 ⟨#[]⟩ w hz ht (fun W hW => looseVal_no s W hs h2 (he.later hW (Nat.le_refl _)) hn')
      rw [loose_none hn']
      rw [valB_zero] at this
      exact this
end Go.Proofs.YtbellpalomiokacDoor
