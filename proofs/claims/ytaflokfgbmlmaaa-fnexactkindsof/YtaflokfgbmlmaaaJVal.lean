/-
  What the functions on values answer: valB of the value, the tested ones and the model alike; nothing that was there has turned.
-/
import Derived.Test.YtaflokfgbmlmaaaJText
import Derived.Test.YtaflokfgbmlmaaaJoined1
import Derived.Deep.RegionWith
import Derived.Deep.QuietTactic
import Derived.BigQuiet
import Derived.Handy
import Derived.Laws.StructEq
namespace Go.Proofs.Ytaflokfgbmlmaaa
open Go.RowKit
set_option linter.unusedVariables false

/-- is a value right? -/
def valB (K N : Int) (S : ByteArray) : Bool := (K == 1 && inB N (-1000000000) 1000000000 && decide (S.size = 0)) || (K == 2 && textB S && N == 0)
theorem valB_num {N : Int} (S : ByteArray) (h : -1000000000 ≤ N ∧ N ≤ 1000000000) : valB 1 N S = decide (S.size = 0) := by
  simp [valB, inB_t h]
theorem valB_out {N : Int} (S : ByteArray) (h : ¬ (-1000000000 ≤ N ∧ N ≤ 1000000000)) : valB 1 N S = false := by
  simp [valB, inB_f h]
theorem valB_text (N : Int) (S : ByteArray) : valB 2 N S = (textB S && N == 0) := by
  simp [valB]
theorem valB_none {K : Int} (N : Int) (S : ByteArray) (h1 : K ≠ 1) (h2 : K ≠ 2) : valB K N S = false := by
  simp [valB, h1, h2]

set_option maxHeartbeats 400000 in
theorem asValNum_any (n : Int) (w : World) :
    Calls Try.prog 113 #[.int .i64 n] w fun e w' => e = .returned (.agg #[.int .i64 1, .int .i64 n, .string ⟨#[]⟩]) ∧ Below w.heap.size w w' := by
  go_enter Try.func113, Try.ntmps113
  go_wp2
  go_returns
  exact ⟨rfl, by go_grown⟩

set_option maxHeartbeats 400000 in
theorem asValText_any (s : ByteArray) (w : World) :
    Calls Try.prog 114 #[.string s] w fun e w' => e = .returned (.agg #[.int .i64 2, .int .i64 0, .string s]) ∧ Below w.heap.size w w' := by
  go_enter Try.func114, Try.ntmps114
  go_wp2
  go_returns
  exact ⟨rfl, by go_grown⟩

/-- what spokenOf answers -/
def spokV (K N : Int) (S : ByteArray) : Value :=
  if valB K N S then (if K = 1 then .iface 136 (.int .i64 N) else .iface 137 (.string S)) else .nilIface
theorem spokV_one {N : Int} {S : ByteArray} (h : valB 1 N S = true) : spokV 1 N S = .iface 136 (.int .i64 N) := by simp [spokV, h]
theorem spokV_two {N : Int} {S : ByteArray} (h : valB 2 N S = true) : spokV 2 N S = .iface 137 (.string S) := by simp [spokV, h]
theorem spokV_no {K N : Int} {S : ByteArray} (h : valB K N S = false) : spokV K N S = .nilIface := by simp [spokV, h]

set_option maxHeartbeats 1600000 in
theorem spokenOf_any (K N : Int) (S : ByteArray) (w : World) (hs : S.size ≤ maxLen) :
    Calls Try.prog 91 #[.agg #[.int .i64 K, .int .i64 N, .string S]] w fun e w' =>
      e = .returned (spokV K N S) ∧ Below w.heap.size w w' := by
  by_cases hK : K = 1
  · subst hK
    by_cases h1 : -1000000000 ≤ N
    · by_cases h2 : N ≤ 1000000000
      · by_cases hS : S.size = 0
        · rw [spokV_one (by rw [valB_num S ⟨h1, h2⟩]; simpa using hS)]
          obtain rfl := empty_of_size hS
          clear hS
          go_enter Try.func91, Try.ntmps91
          go_wp2
          go_region_with (go_at_call 113; refine (asValNum_any _ _).mono ?_; rintro e w' ⟨rfl, hb⟩; obtain ⟨hc, hf⟩ := bcell hb)
          all_goals go_wp2
          all_goals go_ret
          all_goals exact ⟨rfl, below_box hb⟩
        · rw [spokV_no (by rw [valB_num S ⟨h1, h2⟩]; simpa using hS)]
          have hE := isEmpty_false hS
          clear hS
          go_enter Try.func91, Try.ntmps91
          go_wp2
          go_region_with (go_at_call 113; refine (asValNum_any _ _).mono ?_; rintro e w' ⟨rfl, hb⟩; obtain ⟨hc, hf⟩ := bcell hb)
          all_goals go_wp2
          all_goals go_ret
          all_goals exact ⟨rfl, below_box hb⟩
      · rw [spokV_no (valB_out S (by omega))]
        go_enter Try.func91, Try.ntmps91
        go_wp2
        go_quiet (fail)
        go_wp2
        go_ret
        exact ⟨rfl, below_boxN _ _ _⟩
    · rw [spokV_no (valB_out S (by omega))]
      go_enter Try.func91, Try.ntmps91
      go_wp2
      go_quiet (fail)
      go_wp2
      go_ret
      exact ⟨rfl, below_boxN _ _ _⟩
  · have hk1 : (K == 1) = false := by simpa using hK
    by_cases hK2 : K = 2
    · subst hK2
      clear hk1 hK
      cases ht : textB S
      · rw [spokV_no (by rw [valB_text, ht]; rfl)]
        go_enter Try.func91, Try.ntmps91
        go_wp2_with (go_at_call 96; refine (isTextOfVal_any _ _ hs).mono ?_; rintro e w' ⟨rfl, rfl⟩)
        go_quiet (fail)
        go_wp2
        go_ret
        exact ⟨rfl, below_boxN _ _ _⟩
      · by_cases hN : N = 0
        · rw [spokV_two (by rw [valB_text, ht, hN]; rfl)]
          subst hN
          go_enter Try.func91, Try.ntmps91
          go_wp2_with (go_at_call 96; refine (isTextOfVal_any _ _ hs).mono ?_; rintro e w' ⟨rfl, rfl⟩)
          go_region_with (go_at_call 114; refine (asValText_any _ _).mono ?_; rintro e w' ⟨rfl, hb⟩; obtain ⟨hc, hf⟩ := bcell hb)
          all_goals go_wp2
          all_goals go_ret
          all_goals exact ⟨rfl, below_box hb⟩
        · rw [spokV_no (by rw [valB_text, ht]; simpa using hN)]
          have hn0 : ((0 : Int) == N) = false := by simp; omega
          clear hN
          go_enter Try.func91, Try.ntmps91
          go_wp2_with (go_at_call 96; refine (isTextOfVal_any _ _ hs).mono ?_; rintro e w' ⟨rfl, rfl⟩)
          go_region_with (go_at_call 114; refine (asValText_any _ _).mono ?_; rintro e w' ⟨rfl, hb⟩; obtain ⟨hc, hf⟩ := bcell hb)
          all_goals go_wp2
          all_goals go_ret
          all_goals exact ⟨rfl, below_box hb⟩
    · rw [spokV_no (valB_none N S hK hK2)]
      have hk2 : (K == 2) = false := by simpa using hK2
      clear hK hK2
      go_enter Try.func91, Try.ntmps91
      go_wp2
      go_quiet (fail)
      go_wp2
      go_ret
      exact ⟨rfl, below_boxN _ _ _⟩

theorem spokV_nil (K N : Int) (S : ByteArray) : (valB K N S = true ∧ ∃ t v, spokV K N S = .iface t v) ∨ (valB K N S = false ∧ spokV K N S = .nilIface) := by
  cases h : valB K N S
  · exact .inr ⟨rfl, spokV_no h⟩
  · left
    refine ⟨rfl, ?_⟩
    unfold spokV
    rw [h]
    by_cases hk : K = 1
    · exact ⟨_, _, by rw [if_pos rfl, if_pos hk]⟩
    · exact ⟨_, _, by rw [if_pos rfl, if_neg hk]⟩

set_option maxHeartbeats 1600000 in
theorem implValOk_any (K N : Int) (S : ByteArray) (w : World) (hs : S.size ≤ maxLen) :
    Calls Try.prog 75 #[.agg #[.int .i64 K, .int .i64 N, .string S]] w fun e w' =>
      e = .returned (.bool (valB K N S)) ∧ Below w.heap.size w w' := by
  go_enter Try.func75, Try.ntmps75
  go_wp2_with fail
  refine (spokenOf_any K N S _ hs).mono ?_
  rintro e w1 ⟨rfl, hb⟩
  have hb1 : Below w.heap.size w w1 := ((Below.refl w.heap.size w).alloc (Nat.le_refl _) _).trans (hb.mono (by simp))
  clear hb
  rcases spokV_nil K N S with ⟨h1, t, v, h2⟩ | ⟨h1, h2⟩
  · rw [h2]
    have H1 := hide h1
    clear h1 h2
    go_wp2
    go_ret
    exact ⟨ret_bool H1.out.symm, hb1⟩
  · rw [h2]
    have H1 := hide h1
    clear h1 h2
    go_wp2
    go_ret
    exact ⟨ret_bool H1.out.symm, hb1⟩

set_option maxHeartbeats 1600000 in
theorem specValOk_any (K N : Int) (S : ByteArray) (w : World) (hs : S.size ≤ maxLen) :
    Calls Try.prog 69 #[.agg #[.int .i64 K, .int .i64 N, .string S]] w fun e w' =>
      e = .returned (.bool (valB K N S)) ∧ w.grownBy w' none := by
  by_cases hK : K = 1
  · subst hK
    cases hi : inB N (-1000000000) 1000000000
    · have HV : Hid (valB 1 N S = false) := by unfold Hid valB; rw [hi]; simp
      go_enter Try.func69, Try.ntmps69
      go_wp2_with (go_at_call 71; refine (l1In_any _ _ _ _).mono ?_; rintro e w' ⟨rfl, rfl⟩)
      go_ret
      exact ⟨ret_bool HV.out.symm, World.grownBy_alloc _ _ _⟩
    · by_cases hS : S.size = 0
      · obtain rfl := empty_of_size hS
        have HV : Hid (valB 1 N ⟨#[]⟩ = true) := by unfold Hid valB; rw [hi]; rfl
        clear hS
        go_enter Try.func69, Try.ntmps69
        go_wp2_with (go_at_call 71; refine (l1In_any _ _ _ _).mono ?_; rintro e w' ⟨rfl, rfl⟩)
        go_ret
        exact ⟨ret_bool HV.out.symm, World.grownBy_alloc _ _ _⟩
      · have HV : Hid (valB 1 N S = false) := by unfold Hid valB; rw [hi]; simpa using hS
        have hE := isEmpty_false hS
        clear hS
        go_enter Try.func69, Try.ntmps69
        go_wp2_with (go_at_call 71; refine (l1In_any _ _ _ _).mono ?_; rintro e w' ⟨rfl, rfl⟩)
        go_ret
        exact ⟨ret_bool HV.out.symm, World.grownBy_alloc _ _ _⟩
  · have hk1 : (K == 1) = false := by simpa using hK
    by_cases hK2 : K = 2
    · subst hK2
      clear hk1 hK
      have HV := hide (valB_text N S)
      cases ht : textB S
      · rw [ht] at HV
        go_enter Try.func69, Try.ntmps69
        go_wp2_with (go_at_call 85; refine (l2Plain_any _ _ hs).mono ?_; rintro e w' ⟨rfl, rfl⟩)
        go_ret
        exact ⟨ret_bool HV.out.symm, World.grownBy_alloc _ _ _⟩
      · rw [ht] at HV
        go_enter Try.func69, Try.ntmps69
        go_wp2_with (go_at_call 85; refine (l2Plain_any _ _ hs).mono ?_; rintro e w' ⟨rfl, rfl⟩)
        go_ret
        exact ⟨ret_bool HV.out.symm, World.grownBy_alloc _ _ _⟩
    · have HV := hide (valB_none N S hK hK2)
      have hk2 : (K == 2) = false := by simpa using hK2
      clear hK hK2
      go_enter Try.func69, Try.ntmps69
      go_wp2
      go_ret
      exact ⟨ret_bool HV.out.symm, World.grownBy_alloc _ _ _⟩
end Go.Proofs.Ytaflokfgbmlmaaa
