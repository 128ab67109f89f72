/-
  What is joined comes back, plainly: Lex of tokens' texts with blanks between is those tokens.
-/
import Derived.Test.YtfgcflfnpeapaaaGreatDoorLexQ
import Derived.Test.YtfgcflfnpeapaaaGreatDoorJoinP
namespace Go.Proofs.YtfgcflfnpeapaaaGreatDoor
open Go.RowKit
set_option linter.unusedVariables false

/-- what stands behind a token: nothing, or a blank -/
def Sep (r : List UInt8) : Prop := r = [] ∨ ∃ r', r = 32 :: r'
theorem drop_lt {s : ByteArray} {p : Nat} {t r : List UInt8} (h : s.data.toList.drop p = t ++ r) (ht : t ≠ []) : p < s.size := by
  by_cases hp : p < s.size
  · exact hp
  · rw [drop_end (by omega)] at h
    have := congrArg List.length h
    have h2 := List.length_pos_iff.2 ht
    simp at this; omega
theorem drop_size {s : ByteArray} {p : Nat} {t : List UInt8} (h : s.data.toList.drop p = t) (hp : p ≤ s.size) : s.size = p + t.length := by
  have := drop_len s p
  rw [h] at this; omega
theorem drop_more {s : ByteArray} {p : Nat} {t r : List UInt8} (h : s.data.toList.drop p = t ++ r) : s.data.toList.drop (p + t.length) = r := by
  rw [← List.drop_drop, h, List.drop_left]
theorem bat_head {s : ByteArray} {p : Nat} {c : UInt8} {r : List UInt8} (h : s.data.toList.drop p = c :: r) : bat s p = (c.toNat : Int) := by
  have hp : p < s.size := drop_lt (t := [c]) (r := r) (by rw [h]; rfl) (by simp)
  obtain ⟨d, e, hd, _⟩ := drop_at hp
  rw [h] at e
  rw [hd, (List.cons.inj e).1]
theorem bat_sep {s : ByteArray} {p : Nat} {r : List UInt8} (h : s.data.toList.drop p = r) (hr : Sep r) : bat s p = 0 ∨ bat s p = 32 := by
  rcases hr with rfl | ⟨r', rfl⟩
  · left
    apply bat_out
    have := drop_len s p
    rw [h] at this
    simp at this; omega
  · right
    rw [bat_head h]; rfl
theorem tw_app {P : UInt8 → Bool} : ∀ {t r : List UInt8}, (∀ c ∈ t, P c = true) → (t ++ r).takeWhile P = t ++ r.takeWhile P
  | [], r, _ => rfl
  | a :: t, r, h => by
    rw [List.cons_append, List.takeWhile_cons, h a (by simp)]
    simp only [if_true, List.cons_append]
    rw [tw_app (fun c hc => h c (by simp [hc]))]
theorem run_exact {P : Int → Bool} {s : ByteArray} {p : Nat} {t r : List UInt8} (h : s.data.toList.drop p = t ++ r) (hr : Sep r) (ht : ∀ c ∈ t, P (c.toNat : Int) = true) (h32 : P 32 = false) : runN P s p = p + t.length := by
  unfold runN
  rw [h, tw_app ht]
  have : r.takeWhile (fun b => P (b.toNat : Int)) = [] := by
    rcases hr with rfl | ⟨r', rfl⟩
    · rfl
    · rw [List.takeWhile_cons, show ((32 : UInt8).toNat : Int) = 32 from rfl, h32]; rfl
  rw [this, List.append_nil]
theorem ext_tok {s : ByteArray} {p : Nat} {t r : List UInt8} (h : s.data.toList.drop p = t ++ r) : s.extract p (p + t.length) = ⟨t.toArray⟩ := by
  have e : (s.extract p (p + t.length)).data.toList = t := by
    rw [ext_list, h, Nat.add_sub_cancel_left, List.take_left]
  exact (mk_eq_iff.2 e.symm).symm
theorem mk_self (S : ByteArray) : (⟨S.data.toList.toArray⟩ : ByteArray) = S := mk_eq_iff.2 rfl
theorem all_of {S : ByteArray} {P : Int → Bool} (h : ∀ i, i < S.size → P (bat S i) = true) : ∀ c ∈ S.data.toList, P (c.toNat : Int) = true := by
  intro c hc
  obtain ⟨i, hi, e⟩ := List.getElem_of_mem hc
  have hi2 : i < S.size := by rw [← str_len]; exact hi
  have h2 := h i hi2
  rw [bat_in hi2] at h2
  have e2 : (S[i]'hi2) = c := by rw [← e]; simp; rfl
  rw [e2] at h2; exact h2
theorem head_of0 {S : ByteArray} (h : 0 < S.size) : ∃ c r, S.data.toList = c :: r ∧ bat S 0 = (c.toNat : Int) := by
  obtain ⟨c, e, hc, _⟩ := drop_at h
  exact ⟨c, _, by simpa using e, hc⟩
theorem in_dig {c : UInt8} {d : Nat} (h : c = UInt8.ofNat (48 + d)) (hd : d < 10) : (c.toNat : Int) = 48 + d := by
  rw [h]; simp; omega
theorem dec_digits : ∀ u : Nat, ∀ c ∈ Lib.decDigits u, digB (c.toNat : Int) = true := by
  intro u
  induction u using Nat.strongRecOn with
  | _ u ih =>
    intro c hc
    by_cases h : u < 10
    · rw [Lib.decDigits_one h] at hc
      have e := List.mem_singleton.1 hc
      exact inB_t (by have := in_dig e h; omega)
    · rw [Lib.decDigits, dif_neg h] at hc
      rcases List.mem_append.1 hc with h1 | h1
      · exact ih (u / 10) (by omega) c h1
      · have e := List.mem_singleton.1 h1
        have := in_dig e (Nat.mod_lt u (by omega))
        exact inB_t (by have := Nat.mod_lt u (show 10 > 0 by omega); omega)
theorem inB_iff {x a b : Int} : inB x a b = true ↔ a ≤ x ∧ x ≤ b := by simp [inB]
theorem nameB_open {s : ByteArray} (h : nameB s = true) : 1 ≤ s.size ∧ inB (bat s 0) 97 122 = true ∧ ∀ i, i < s.size → wordB (bat s i) = true := by
  unfold nameB at h
  rw [Bool.and_eq_true, List.all_eq_true, inB_iff] at h
  obtain ⟨h1, h2⟩ := h
  have hi : ∀ i, i < s.size → headB s i = true := fun i hi => h1 i (by simpa using hi)
  refine ⟨by omega, ?_, fun i hl => ?_⟩
  · have := hi 0 (by omega)
    unfold headB at this
    rw [Bool.and_eq_true] at this
    simpa using this.2
  · have := hi i hl
    unfold headB at this
    rw [Bool.and_eq_true] at this
    exact this.1
theorem varB_open {s : ByteArray} (h : varB s = true) : 1 ≤ s.size ∧ inB (bat s 0) 65 90 = true ∧ ∀ i, i < s.size → varByteB (bat s i) = true := by
  unfold varB at h
  rw [Bool.and_eq_true, List.all_eq_true, inB_iff] at h
  obtain ⟨h1, h2⟩ := h
  have hi : ∀ i, i < s.size → varAt s i = true := fun i hi => h1 i (by simpa using hi)
  refine ⟨by omega, ?_, fun i hl => ?_⟩
  · have := hi 0 (by omega)
    unfold varAt at this
    simpa using this
  · have := hi i hl
    unfold varAt at this
    unfold varByteB
    rw [Bool.or_eq_true] at this ⊢
    exact this.imp id (fun h => (by rw [Bool.and_eq_true] at h; exact h.2))
theorem textB_open {s : ByteArray} (h : textB s = true) : ∀ i, i < s.size → wordB (bat s i) = true := by
  unfold textB at h
  rw [Bool.and_eq_true, List.all_eq_true] at h
  exact fun i hi => h.1 i (by simpa using hi)
theorem word_notQ {x : Int} (h : wordB x = true) : notQ x = true := by
  unfold notQ
  cases h2 : (x != 39)
  · have : x = 39 := by simpa using h2
    subst this
    exact absurd h (by decide)
  · rfl
/-- the first byte of a token: none that is passed over -/
def Starts (x : Int) : Prop := ¬ (x = 32 ∨ x = 9 ∨ x = 10 ∨ x = 13) ∧ x ≠ 37

theorem one_num {s : ByteArray} {p : Nat} {N : Int} {S : ByteArray} {r : List UInt8} (hb : tokB 1 N S = true) (h : s.data.toList.drop p = tokL 1 N S ++ r) (hr : Sep r) : oneP s p = (⟨1, N, S⟩, p + (tokL 1 N S).length) ∧ Starts (bat s p) ∧ tokL 1 N S ≠ [] := by
  have hR := tokB_range hb
  have hS : S = ⟨#[]⟩ := by
    rw [tokB_num, Bool.and_eq_true] at hb
    exact empty_of_size (by simpa using hb.2)
  rw [tokL_num hb, itoa_pos (by omega)] at h ⊢
  obtain ⟨d, q, e, hd, -, -⟩ := dec_head N.toNat
  have hb0 : bat s p = 48 + d := by
    have e2 := h
    rw [e, List.cons_append] at e2
    rw [bat_head e2]; exact in_dig rfl hd
  have h1 : digB (bat s p) = true := inB_t (by omega)
  have hrun := run_exact (P := digB) h hr (dec_digits _) (by decide)
  refine ⟨?_, ⟨by omega, by omega⟩, decDigits_ne _⟩
  unfold oneP
  rw [if_pos h1, hrun, ext_tok h]
  have hw := whole_dec N.toNat (by omega)
  have e3 : wholeL (⟨(Lib.decDigits N.toNat).toArray⟩ : ByteArray).data.toList = N := by
    show wholeL (Lib.decDigits N.toNat).toArray.toList = N
    rw [List.toList_toArray, hw]; omega
  rw [e3, hS]
theorem one_name {s : ByteArray} {p : Nat} {N : Int} {S : ByteArray} {r : List UInt8} (hb : tokB 2 N S = true) (h : s.data.toList.drop p = tokL 2 N S ++ r) (hr : Sep r) : oneP s p = (⟨2, N, S⟩, p + (tokL 2 N S).length) ∧ Starts (bat s p) ∧ tokL 2 N S ≠ [] := by
  rw [tokL_word hb (by decide) (by decide)] at h ⊢
  rw [tokB_or S (by decide), Bool.and_eq_true] at hb
  have hN : N = 0 := by simpa using hb.1
  have hn : nameB S = true := by have := hb.2; unfold wordOfB at this; rwa [if_pos rfl] at this
  obtain ⟨h1, h2, h3⟩ := nameB_open hn
  obtain ⟨c, q, e, hc⟩ := head_of0 h1
  have hb0 : bat s p = bat S 0 := by
    have e2 := h
    rw [e, List.cons_append] at e2
    rw [bat_head e2, hc]
  have hin := inB_iff.1 h2
  have hrun := run_exact (P := wordB) h hr (all_of h3) (by decide)
  refine ⟨?_, ⟨by omega, by omega⟩, by rw [e]; simp⟩
  unfold oneP
  rw [if_neg (by unfold digB; rw [inB_iff]; omega), if_pos (by rw [hb0]; exact h2), hrun, ext_tok h, mk_self, hN]
theorem one_var {s : ByteArray} {p : Nat} {N : Int} {S : ByteArray} {r : List UInt8} (hb : tokB 3 N S = true) (h : s.data.toList.drop p = tokL 3 N S ++ r) (hr : Sep r) : oneP s p = (⟨3, N, S⟩, p + (tokL 3 N S).length) ∧ Starts (bat s p) ∧ tokL 3 N S ≠ [] := by
  rw [tokL_word hb (by decide) (by decide)] at h ⊢
  rw [tokB_or S (by decide), Bool.and_eq_true] at hb
  have hN : N = 0 := by simpa using hb.1
  have hn : varB S = true := by have := hb.2; unfold wordOfB at this; rwa [if_neg (by decide), if_pos rfl] at this
  obtain ⟨h1, h2, h3⟩ := varB_open hn
  obtain ⟨c, q, e, hc⟩ := head_of0 h1
  have hb0 : bat s p = bat S 0 := by
    have e2 := h
    rw [e, List.cons_append] at e2
    rw [bat_head e2, hc]
  have hin := inB_iff.1 h2
  have hrun := run_exact (P := varByteB) h hr (all_of h3) (by decide)
  refine ⟨?_, ⟨by omega, by omega⟩, by rw [e]; simp⟩
  unfold oneP
  rw [if_neg (by unfold digB; rw [inB_iff]; omega), if_neg (by rw [inB_iff]; omega), if_pos (by rw [hb0]; exact h2), hrun, ext_tok h, mk_self, hN]
theorem one_text {s : ByteArray} {p : Nat} {N : Int} {S : ByteArray} {r : List UInt8} (hb : tokB 4 N S = true) (h : s.data.toList.drop p = tokL 4 N S ++ r) (hr : Sep r) : oneP s p = (⟨4, N, S⟩, p + (tokL 4 N S).length) ∧ Starts (bat s p) ∧ tokL 4 N S ≠ [] := by
  rw [tokL_text hb] at h ⊢
  rw [tokB_or S (by decide), Bool.and_eq_true] at hb
  have hN : N = 0 := by simpa using hb.1
  have hn : textB S = true := by have := hb.2; unfold wordOfB at this; rwa [if_neg (by decide), if_neg (by decide), if_pos rfl] at this
  have h3 := textB_open hn
  have hb0 : bat s p = 39 := by
    have e2 := h
    rw [List.append_assoc, List.cons_append] at e2
    rw [bat_head e2]; rfl
  have h2 : s.data.toList.drop (p + 1) = S.data.toList ++ (39 :: r) := by
    rw [← List.drop_drop, h]; simp
  have hrun : runN notQ s (p + 1) = p + 1 + S.data.toList.length := by
    unfold runN
    rw [h2, tw_app (fun c hc => word_notQ (all_of h3 c hc)), List.takeWhile_cons]
    have : notQ (((39 : UInt8).toNat : Nat) : Int) = false := by decide
    rw [this]; simp
  have hsz : p + 1 + S.data.toList.length < s.size := by
    have hd := drop_len s (p + 1)
    rw [h2] at hd
    simp only [List.length_append, List.length_cons] at hd
    omega
  refine ⟨?_, ⟨by omega, by omega⟩, by simp⟩
  unfold oneP
  rw [if_neg (by unfold digB; rw [inB_iff]; omega), if_neg (by rw [inB_iff]; omega), if_neg (by rw [inB_iff]; omega), if_pos hb0, hrun, if_neg (by omega), ext_tok h2, mk_self, hN]
  simp; omega
theorem ones_plain : ∀ c ∈ ones, ¬ (48 ≤ (c.toNat : Int) ∧ (c.toNat : Int) ≤ 57) ∧ ¬ (97 ≤ (c.toNat : Int) ∧ (c.toNat : Int) ≤ 122) ∧ ¬ (65 ≤ (c.toNat : Int) ∧ (c.toNat : Int) ≤ 90) ∧ (c.toNat : Int) ≠ 39 ∧ (c.toNat : Int) ≠ 32 ∧ (c.toNat : Int) ≠ 9 ∧ (c.toNat : Int) ≠ 10 ∧ (c.toNat : Int) ≠ 13 ∧ (c.toNat : Int) ≠ 37 := by decide
theorem one_mark {s : ByteArray} {p : Nat} {N : Int} {S : ByteArray} {r : List UInt8} (hb : tokB 5 N S = true) (h : s.data.toList.drop p = tokL 5 N S ++ r) (hr : Sep r) : oneP s p = (⟨5, N, S⟩, p + (tokL 5 N S).length) ∧ Starts (bat s p) ∧ tokL 5 N S ≠ [] := by
  rw [tokL_word hb (by decide) (by decide)] at h ⊢
  rw [tokB_or S (by decide), Bool.and_eq_true] at hb
  have hN : N = 0 := by simpa using hb.1
  have hn : markB S = true := by have := hb.2; unfold wordOfB at this; rwa [if_neg (by decide), if_neg (by decide), if_neg (by decide), if_pos rfl] at this
  unfold markB at hn
  rw [Bool.or_eq_true, beq_iff_eq, List.any_eq_true, ByteArray.toList_eq] at hn
  rcases hn with e | ⟨c, hc, e⟩
  · have hx := ext_tok h
    rw [mk_self, e] at hx
    rw [e] at h ⊢
    have hb0 : bat s p = 45 := by rw [bat_head h]; rfl
    have h2 : s.data.toList.drop (p + 1) = [62] ++ r := by rw [← List.drop_drop, h]; simp
    have hb1 : bat s (p + 1) = 62 := by rw [bat_head h2]; rfl
    refine ⟨?_, ⟨by omega, by omega⟩, by simp⟩
    unfold oneP
    rw [if_neg (by unfold digB; rw [inB_iff]; omega), if_neg (by rw [inB_iff]; omega), if_neg (by rw [inB_iff]; omega), if_neg (by omega), if_pos ⟨hb0, hb1⟩, hN]
    have hx' : s.extract p (p + 2) = S := hx
    rw [hx']; rfl
  · rw [beq_iff_eq] at e
    have hx := ext_tok h
    rw [mk_self, e] at hx
    rw [e] at h ⊢
    have hb0 : bat s p = (c.toNat : Int) := bat_head h
    obtain ⟨o1, o2, o3, o4, o5, o6, o7, o8, o9⟩ := ones_plain c hc
    have hb1 := bat_sep (drop_more (t := [c]) h) hr
    refine ⟨?_, ⟨by omega, by omega⟩, by simp⟩
    unfold oneP
    have hx' : s.extract p (p + 1) = S := hx
    rw [if_neg (by unfold digB; rw [inB_iff]; omega), if_neg (by rw [inB_iff]; omega), if_neg (by rw [inB_iff]; omega), if_neg (by omega), if_neg (fun hh => by have h1 := hh.2; rcases hb1 with h2 | h2 <;> (simp at h2; omega)), hN, hx']
    rfl
theorem one_tok {s : ByteArray} {p : Nat} {v : V3} {r : List UInt8} (hb : tokB v.K v.N v.S = true) (h : s.data.toList.drop p = v.tok ++ r) (hr : Sep r) : oneP s p = (v, p + v.tok.length) ∧ Starts (bat s p) ∧ v.tok ≠ [] := by
  obtain ⟨K, N, S⟩ := v
  unfold V3.tok at *
  simp only at *
  by_cases h1 : K = 1
  · subst h1; exact one_num hb h hr
  by_cases h2 : K = 2
  · subst h2; exact one_name hb h hr
  by_cases h3 : K = 3
  · subst h3; exact one_var hb h hr
  by_cases h4 : K = 4
  · subst h4; exact one_text hb h hr
  by_cases h5 : K = 5
  · subst h5; exact one_mark hb h hr
  · rw [tokB_or S h1, Bool.and_eq_true] at hb
    have := hb.2
    unfold wordOfB at this
    rw [if_neg h2, if_neg h3, if_neg h4, if_neg h5] at this
    cases this
end Go.Proofs.YtfgcflfnpeapaaaGreatDoor
