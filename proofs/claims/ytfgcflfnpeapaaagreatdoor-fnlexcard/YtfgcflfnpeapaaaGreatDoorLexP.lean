/-
  How a text is gone through, plainly: what is passed over, runs of bytes.
-/
import Derived.Test.YtfgcflfnpeapaaaGreatDoorTokP
import Derived.Test.YtfgcflfnpeapaaaGreatDoorValP
import Derived.Test.YtfgcflfnpeapaaaGreatDoorV3
namespace Go.Proofs.YtfgcflfnpeapaaaGreatDoor
open Go.RowKit
set_option linter.unusedVariables false

theorem drop_at {s : ByteArray} {k : Nat} (h : k < s.size) : ∃ c : UInt8, s.data.toList.drop k = c :: s.data.toList.drop (k + 1) ∧ bat s k = (c.toNat : Int) ∧ s[k]'h = c := by
  have hl : k < s.data.toList.length := by rw [Array.length_toList]; exact h
  refine ⟨s.data.toList[k], List.drop_eq_getElem_cons hl, ?_, ?_⟩
  · rw [bat_in h]; congr 1
  · simp; rfl
theorem drop_end {s : ByteArray} {k : Nat} (h : s.size ≤ k) : s.data.toList.drop k = [] := List.drop_eq_nil_of_le (by rw [Array.length_toList]; exact h)
theorem drop_len (s : ByteArray) (k : Nat) : (s.data.toList.drop k).length = s.size - k := by rw [List.length_drop, Array.length_toList]; rfl

/-- a run of bytes -/
def runN (P : Int → Bool) (s : ByteArray) (k : Nat) : Nat := k + ((s.data.toList.drop k).takeWhile (fun b => P (b.toNat : Int))).length
theorem runN_yes {P : Int → Bool} {s : ByteArray} {k : Nat} (h : k < s.size) (hp : P (bat s k) = true) : runN P s k = runN P s (k + 1) := by
  obtain ⟨c, e, hc, _⟩ := drop_at h
  unfold runN
  rw [e, List.takeWhile_cons, ← hc, hp]
  simp; omega
theorem runN_no {P : Int → Bool} {s : ByteArray} {k : Nat} (h : k < s.size) (hp : P (bat s k) = false) : runN P s k = k := by
  obtain ⟨c, e, hc, _⟩ := drop_at h
  unfold runN
  rw [e, List.takeWhile_cons, ← hc, hp]
  simp
theorem runN_end {P : Int → Bool} {s : ByteArray} {k : Nat} (h : s.size ≤ k) : runN P s k = k := by
  unfold runN
  rw [drop_end h]; simp
theorem runN_ge (P : Int → Bool) (s : ByteArray) (k : Nat) : k ≤ runN P s k := by unfold runN; omega
theorem runN_le {P : Int → Bool} {s : ByteArray} {k : Nat} (h : k ≤ s.size) : runN P s k ≤ s.size := by
  have h2 := drop_len s k
  have h3 : ((s.data.toList.drop k).takeWhile (fun b => P (b.toNat : Int))).length ≤ (s.data.toList.drop k).length := List.IsPrefix.length_le (List.takeWhile_prefix _)
  unfold runN
  omega
theorem runN_at {P : Int → Bool} {s : ByteArray} : ∀ (d k : Nat), s.size - k = d → k ≤ s.size → (runN P s k < s.size → P (bat s (runN P s k)) = false) ∧ ∀ j, k ≤ j → j < runN P s k → P (bat s j) = true
  | 0, k, hd, hk => by
    rw [runN_end (by omega)]
    exact ⟨fun h => by omega, fun j h1 h2 => by omega⟩
  | d + 1, k, hd, hk => by
    have hlt : k < s.size := by omega
    cases hp : P (bat s k)
    · rw [runN_no hlt hp]
      exact ⟨fun _ => hp, fun j h1 h2 => by omega⟩
    · rw [runN_yes hlt hp]
      obtain ⟨h1, h2⟩ := runN_at (P := P) (s := s) d (k + 1) (by omega) (by omega)
      refine ⟨h1, fun j h3 h4 => ?_⟩
      by_cases e : j = k
      · rw [e]; exact hp
      · exact h2 j (by omega) h4

/-- what is passed over: blanks, and from a '%' up to a byte 10 -/
def skipB : Bool → List UInt8 → List UInt8
  | _, [] => []
  | true, c :: r => if c.toNat = 10 then skipB false r else skipB true r
  | false, c :: r => if c.toNat = 32 ∨ c.toNat = 9 ∨ c.toNat = 10 ∨ c.toNat = 13 then skipB false r else if c.toNat = 37 then skipB true r else c :: r
def passN (s : ByteArray) (b : Bool) (k : Nat) : Nat := s.size - (skipB b (s.data.toList.drop k)).length
theorem skipB_len : ∀ (l : List UInt8) (b : Bool), (skipB b l).length ≤ l.length
  | [], b => by cases b <;> simp [skipB]
  | c :: r, true => by
    have h1 := skipB_len r true
    have h2 := skipB_len r false
    simp only [skipB]
    split <;> simp <;> omega
  | c :: r, false => by
    have h1 := skipB_len r true
    have h2 := skipB_len r false
    simp only [skipB]
    split
    · simp; omega
    · split <;> simp <;> omega
theorem passN_ge {s : ByteArray} {b : Bool} {k : Nat} (h : k ≤ s.size) : k ≤ passN s b k := by
  have h1 := skipB_len (s.data.toList.drop k) b
  have h2 := drop_len s k
  unfold passN; omega
theorem passN_le (s : ByteArray) (b : Bool) (k : Nat) : passN s b k ≤ s.size := by unfold passN; omega
theorem passN_end {s : ByteArray} {b : Bool} {k : Nat} (h : s.size ≤ k) : passN s b k = s.size := by
  unfold passN; rw [drop_end h]; cases b <;> simp [skipB]
theorem passN_blank {s : ByteArray} {k : Nat} (h : k < s.size) (hb : bat s k = 32 ∨ bat s k = 9 ∨ bat s k = 10 ∨ bat s k = 13) : passN s false k = passN s false (k + 1) := by
  obtain ⟨c, e, hc, _⟩ := drop_at h
  unfold passN
  rw [e]
  simp only [skipB]
  rw [if_pos (by omega)]
theorem passN_rem {s : ByteArray} {k : Nat} (h : k < s.size) (hb : bat s k = 37) : passN s false k = passN s true (k + 1) := by
  obtain ⟨c, e, hc, _⟩ := drop_at h
  unfold passN
  rw [e]
  simp only [skipB]
  rw [if_neg (by omega), if_pos (by omega)]
theorem passN_stop {s : ByteArray} {k : Nat} (h : k < s.size) (hb : ¬ (bat s k = 32 ∨ bat s k = 9 ∨ bat s k = 10 ∨ bat s k = 13)) (h2 : bat s k ≠ 37) : passN s false k = k := by
  obtain ⟨c, e, hc, _⟩ := drop_at h
  have hl := drop_len s k
  rw [e] at hl
  unfold passN
  rw [e]
  simp only [skipB]
  rw [if_neg (by omega), if_neg (by omega), hl]
  omega
theorem passN_in {s : ByteArray} {k : Nat} (h : k < s.size) (hb : bat s k ≠ 10) : passN s true k = passN s true (k + 1) := by
  obtain ⟨c, e, hc, _⟩ := drop_at h
  unfold passN
  rw [e]
  simp only [skipB]
  rw [if_neg (by omega)]
theorem passN_out {s : ByteArray} {k : Nat} (h : k < s.size) (hb : bat s k = 10) : passN s true k = passN s false k := by
  obtain ⟨c, e, hc, _⟩ := drop_at h
  unfold passN
  rw [e]
  simp only [skipB]
  rw [if_pos (by omega), if_pos (by omega)]

def notQ (x : Int) : Bool := x != 39
def digB (x : Int) : Bool := inB x 48 57
/-- what begins at a place, and the place behind it -/
noncomputable def oneP (s : ByteArray) (k : Nat) : V3 × Nat :=
  if digB (bat s k) = true then (⟨1, wholeL (s.extract k (runN digB s k)).data.toList, ⟨#[]⟩⟩, runN digB s k)
  else if inB (bat s k) 97 122 = true then (⟨2, 0, s.extract k (runN wordB s k)⟩, runN wordB s k)
  else if inB (bat s k) 65 90 = true then (⟨3, 0, s.extract k (runN varByteB s k)⟩, runN varByteB s k)
  else if bat s k = 39 then (if runN notQ s (k + 1) = s.size then (⟨0, 0, ⟨#[]⟩⟩, s.size) else (⟨4, 0, s.extract (k + 1) (runN notQ s (k + 1))⟩, runN notQ s (k + 1) + 1))
  else if bat s k = 45 ∧ bat s (k + 1) = 62 then (⟨5, 0, s.extract k (k + 2)⟩, k + 2)
  else (⟨5, 0, s.extract k (k + 1)⟩, k + 1)
theorem bat_out {s : ByteArray} {k : Nat} (h : s.size ≤ k) : bat s k = 0 := by unfold bat; rw [dif_neg (by omega)]
theorem oneP_next {s : ByteArray} {k : Nat} (h : k < s.size) : k < (oneP s k).2 ∧ (oneP s k).2 ≤ s.size := by
  unfold oneP
  split
  · rename_i h1; simp only; rw [runN_yes h h1]; exact ⟨runN_ge _ _ _, runN_le (by omega)⟩
  · split
    · rename_i h1
      have hw : wordB (bat s k) = true := by unfold wordB; rw [h1]; rfl
      simp only; rw [runN_yes h hw]; exact ⟨runN_ge _ _ _, runN_le (by omega)⟩
    · split
      · rename_i h1
        have hw : varByteB (bat s k) = true := by unfold varByteB; rw [h1]; rfl
        simp only; rw [runN_yes h hw]; exact ⟨runN_ge _ _ _, runN_le (by omega)⟩
      · split
        · have h1 := runN_ge notQ s (k + 1)
          have h2 := runN_le (P := notQ) (s := s) (k := k + 1) (by omega)
          split <;> simp only <;> omega
        · split
          · rename_i h1
            simp only
            by_cases h2 : k + 1 < s.size
            · omega
            · have := bat_out (s := s) (k := k + 1) (by omega); omega
          · simp only; omega

/-- Lex, plainly -/
noncomputable def lexF (s : ByteArray) : Nat → List V3 → Nat → List V3 × Int
  | 0, _, k => ([], (k : Int))
  | f + 1, L, k => if k < s.size then (if tokB (oneP s k).1.K (oneP s k).1.N (oneP s k).1.S = true ∧ L.length ≠ 3000 then lexF s f (L ++ [(oneP s k).1]) (passN s false (oneP s k).2) else ([], (k : Int))) else (L, -1)
noncomputable def lexP (s : ByteArray) : List V3 × Int := lexF s 3001 [] (passN s false 0)
theorem lexF_end {s : ByteArray} {L : List V3} {k : Nat} (hL : L.length ≤ 3000) (h : ¬ k < s.size) : lexF s (3001 - L.length) L k = (L, -1) := by
  rw [show 3001 - L.length = (3000 - L.length) + 1 by omega]
  unfold lexF; rw [if_neg h]
theorem lexF_no {s : ByteArray} {L : List V3} {k : Nat} (hL : L.length ≤ 3000) (h : k < s.size) (h2 : ¬ (tokB (oneP s k).1.K (oneP s k).1.N (oneP s k).1.S = true ∧ L.length ≠ 3000)) : lexF s (3001 - L.length) L k = ([], (k : Int)) := by
  rw [show 3001 - L.length = (3000 - L.length) + 1 by omega]
  unfold lexF; rw [if_pos h, if_neg h2]
theorem lexF_step {s : ByteArray} {L : List V3} {k : Nat} (hL : L.length ≤ 3000) (h : k < s.size) (h2 : tokB (oneP s k).1.K (oneP s k).1.N (oneP s k).1.S = true) (h3 : L.length ≠ 3000) : lexF s (3001 - L.length) L k = lexF s (3001 - (L ++ [(oneP s k).1]).length) (L ++ [(oneP s k).1]) (passN s false (oneP s k).2) := by
  rw [show 3001 - L.length = (3000 - L.length) + 1 by omega]
  conv => lhs; unfold lexF
  rw [if_pos h, if_pos ⟨h2, h3⟩]
  rw [List.length_append, List.length_singleton, show 3001 - (L.length + 1) = 3000 - L.length by omega]
end Go.Proofs.YtfgcflfnpeapaaaGreatDoor
