/-
  What begins at a place, plainly: the tested program's kind, end and token of it are the model's.
-/
import Derived.Test.YtfgcflfnpeapaaaGreatDoorLexI2
import Derived.Test.YtfgcflfnpeapaaaGreatDoorLexI3
namespace Go.Proofs.YtfgcflfnpeapaaaGreatDoor
open Go.RowKit
set_option linter.unusedVariables false

noncomputable def tokP (K : Int) (x : ByteArray) : Option V3 := if K = 1 then numT x else if K = 4 then quoT x else wordT K x
theorem tokenOf_any (K : Int) (x : ByteArray) (w : World) (hs : x.size ≤ 1048576) (h0 : 0 < x.size) (ht : Tab w) (he : Errs w) :
    Calls Tryz.prog 19 #[.int .i64 K, .string x] w fun e w' => e = .returned (ansT (tokP K x)) ∧ Below w.heap.size w w' := by
  unfold tokP
  by_cases h1 : K = 1
  · subst h1; rw [if_pos rfl]; exact tokenOf_num x w hs h0 ht he
  · rw [if_neg h1]
    by_cases h4 : K = 4
    · subst h4; rw [if_pos rfl]; exact tokenOf_quo x w hs h0 ht he
    · rw [if_neg h4]; exact tokenOf_word x K h1 h4 w hs h0 ht he

theorem ext_list (s : ByteArray) (a b : Nat) : (s.extract a b).data.toList = (s.data.toList.drop a).take (b - a) := by
  rw [ByteArray.data_extract, Array.toList_extract]
theorem ext_size {s : ByteArray} {a b : Nat} (h : b ≤ s.size) : (s.extract a b).size = b - a := by
  rw [ByteArray.size_extract]; omega
theorem take_run {P : Int → Bool} {s : ByteArray} {k : Nat} : (s.extract k (runN P s k)).data.toList = (s.data.toList.drop k).takeWhile (fun b => P (b.toNat : Int)) := by
  rw [ext_list]
  unfold runN
  rw [Nat.add_sub_cancel_left]
  exact (List.prefix_iff_eq_take.1 (List.takeWhile_prefix _)).symm
theorem drop_tw (p : UInt8 → Bool) : ∀ l : List UInt8, l.drop (l.takeWhile p).length = l.dropWhile p
  | [] => rfl
  | a :: r => by
    rw [List.takeWhile_cons, List.dropWhile_cons]
    cases h : p a
    · simp
    · simp only [if_true, List.length_cons, List.drop_succ_cons]
      exact drop_tw p r
theorem mem_tw {p : UInt8 → Bool} {b : UInt8} : ∀ {l : List UInt8}, b ∈ l.takeWhile p → p b = true
  | [], h => by simp at h
  | a :: r, h => by
    rw [List.takeWhile_cons] at h
    cases hp : p a
    · rw [hp] at h; simp at h
    · rw [hp] at h
      simp only [if_true, List.mem_cons] at h
      rcases h with rfl | h
      · exact hp
      · exact mem_tw h
theorem run_rest {P : Int → Bool} {s : ByteArray} {k : Nat} (h : k ≤ s.size) : s.data.toList.drop (runN P s k) = (s.data.toList.drop k).dropWhile (fun b => P (b.toNat : Int)) := by
  unfold runN
  rw [← List.drop_drop]
  exact drop_tw _ _

/-- bytes none of which is a quote, within quotes: what is left when the quotes are cut off -/
theorem trim_body {l : List UInt8} (h : ∀ b ∈ l, (b == 39) = false) : Lib.trimB (39 :: l ++ [39]) 39 = l := by
  have hr : Lib.trimRightB (39 :: l ++ [39]) 39 = if l = [] then [] else 39 :: l := by
    unfold Lib.trimRightB
    rw [List.reverse_append, List.reverse_singleton, List.singleton_append, List.dropWhile_cons]
    simp only [beq_self_eq_true, if_true]
    rw [List.reverse_cons]
    by_cases e : l = []
    · subst e; simp
    · rw [if_neg e]
      have hne : l.reverse ≠ [] := by simpa using e
      obtain ⟨c, r, hcr⟩ := List.exists_cons_of_ne_nil hne
      have hc : (c == 39) = false := h c (by rw [← List.mem_reverse, hcr]; simp)
      rw [hcr, List.cons_append, List.dropWhile_cons, hc]
      simp only [Bool.false_eq_true, if_false]
      rw [← List.cons_append, ← hcr]
      simp
  unfold Lib.trimB
  rw [hr]
  by_cases e : l = []
  · rw [if_pos e, e]; rfl
  · rw [if_neg e]
    unfold Lib.trimLeftB
    rw [List.dropWhile_cons]
    simp only [beq_self_eq_true, if_true]
    obtain ⟨c, r, hcr⟩ := List.exists_cons_of_ne_nil e
    have hc : (c == 39) = false := h c (by rw [hcr]; simp)
    rw [hcr, List.dropWhile_cons, hc]
    simp
theorem notQ_beq {b : UInt8} (h : notQ (b.toNat : Int) = true) : (b == 39) = false := by
  unfold notQ at h
  rw [beq_eq_false_iff_ne]
  rintro rfl
  simp at h
theorem tok0 : tokB 0 0 ⟨#[]⟩ = false := by decide +kernel

theorem quo_shut {s : ByteArray} {k : Nat} (h : k < s.size) (h39 : bat s k = 39) (hq : runN notQ s (k + 1) < s.size) :
    quoT (s.extract k (runN notQ s (k + 1) + 1)) = if tokB 4 0 (s.extract (k + 1) (runN notQ s (k + 1))) = true then some ⟨4, 0, s.extract (k + 1) (runN notQ s (k + 1))⟩ else none := by
  obtain ⟨c, e, hc, _⟩ := drop_at h
  have hc39 : c = 39 := by
    apply UInt8.toNat_inj.1
    have : ((39 : UInt8).toNat : Int) = 39 := rfl
    omega
  subst hc39
  have hge := runN_ge notQ s (k + 1)
  obtain ⟨d, e2, hd, _⟩ := drop_at hq
  have hd39 : d = 39 := by
    have h3 := (runN_at (P := notQ) (s := s) (s.size - (k + 1)) (k + 1) rfl (by omega)).1 hq
    rw [hd] at h3
    unfold notQ at h3
    apply UInt8.toNat_inj.1
    have : ((39 : UInt8).toNat : Int) = 39 := rfl
    simp at h3
    omega
  subst hd39
  obtain ⟨l, hl⟩ : ∃ l, (s.extract (k + 1) (runN notQ s (k + 1))).data.toList = l := ⟨_, rfl⟩
  have hlq : ∀ b ∈ l, (b == 39) = false := by
    rw [← hl, take_run]
    intro b hb
    have := mem_tw hb
    exact notQ_beq this
  have hx : (s.extract k (runN notQ s (k + 1) + 1)).data.toList = 39 :: l ++ [39] := by
    rw [ext_list, e, show runN notQ s (k + 1) + 1 - k = ((runN notQ s (k + 1) - (k + 1)) + 1) + 1 by omega, List.take_succ_cons]
    rw [List.cons_append]
    congr 1
    have e3 := run_rest (P := notQ) (s := s) (k := k + 1) (by omega)
    have e4 := List.takeWhile_append_dropWhile (p := fun b : UInt8 => notQ (b.toNat : Int)) (l := s.data.toList.drop (k + 1))
    rw [← take_run, hl, ← e3, e2] at e4
    rw [← e4]
    have hll : l.length = runN notQ s (k + 1) - (k + 1) := by
      rw [← hl, str_len, ext_size (by omega)]
    rw [← hll, List.take_append, List.take_of_length_le (by omega)]
    simp
  have hb : (⟨l.toArray⟩ : ByteArray) = s.extract (k + 1) (runN notQ s (k + 1)) := mk_eq_iff.2 hl.symm
  unfold quoT
  rw [hx, trim_body hlq, hb]
  cases ht : tokB 4 0 (s.extract (k + 1) (runN notQ s (k + 1)))
  · rw [tokL_no ht, if_neg (by simp), if_neg (by simp)]
  · rw [tokL_text ht, hl, if_pos rfl, if_pos rfl]
theorem quo_open {s : ByteArray} {k : Nat} (h : k < s.size) (h39 : bat s k = 39) (hq : runN notQ s (k + 1) = s.size) : quoT (s.extract k s.size) = none := by
  obtain ⟨c, e, hc, _⟩ := drop_at h
  have hx : (s.extract k s.size).data.toList = c :: s.data.toList.drop (k + 1) := by
    rw [ext_list, e, List.take_of_length_le]
    rw [← e, drop_len]; exact Nat.le_refl _
  have hall : ∀ b ∈ s.data.toList.drop (k + 1), (b == 39) = false := by
    have e3 := take_run (P := notQ) (s := s) (k := k + 1)
    rw [hq, ext_list, List.take_of_length_le (by rw [drop_len]; omega)] at e3
    intro b hb
    rw [e3] at hb
    exact notQ_beq (mem_tw hb)
  unfold quoT
  generalize (⟨(Lib.trimB (s.extract k s.size).data.toList 39).toArray⟩ : ByteArray) = tr
  rw [hx]
  refine if_neg (fun he => ?_)
  cases ht : tokB 4 0 tr
  · rw [tokL_no ht] at he; cases he
  · rw [tokL_text ht, List.cons_append] at he
    have he2 := (List.cons.inj he).2
    have hm : (39 : UInt8) ∈ s.data.toList.drop (k + 1) := by rw [← he2]; simp
    have := hall 39 hm
    simp at this

theorem one_kind {s : ByteArray} {k : Nat} (h : k < s.size) :
    tokP (kindP s k).1 (s.extract k (kindP s k).2) = (if tokB (oneP s k).1.K (oneP s k).1.N (oneP s k).1.S = true then some (oneP s k).1 else none) ∧
    (tokB (oneP s k).1.K (oneP s k).1.N (oneP s k).1.S = true → (kindP s k).2 = (oneP s k).2) ∧ k < (kindP s k).2 ∧ (kindP s k).2 ≤ s.size := by
  unfold kindP oneP
  by_cases h1 : digB (bat s k) = true
  · rw [if_pos h1, if_pos h1]
    have e := runN_yes h h1
    simp only [← e]
    refine ⟨?_, fun _ => (by first | rfl | trivial), by rw [e]; exact runN_ge _ _ _, runN_le (by omega)⟩
    unfold tokP numT
    rw [if_pos rfl]
    by_cases hc : 0 ≤ wholeL (s.extract k (runN digB s k)).data.toList ∧ wholeL (s.extract k (runN digB s k)).data.toList ≤ 1000000000
    · rw [if_pos hc, if_pos (by rw [tokB_num, inB_t hc]; rfl)]
    · rw [if_neg hc, if_neg (by rw [tokB_num, inB_f hc]; simp)]
  · rw [if_neg h1, if_neg h1]
    by_cases h2 : inB (bat s k) 97 122 = true
    · rw [if_pos h2, if_pos h2]
      have hw : wordB (bat s k) = true := by unfold wordB; rw [h2]; rfl
      have e := runN_yes h hw
      simp only [← e]
      refine ⟨?_, fun _ => (by first | rfl | trivial), by rw [e]; exact runN_ge _ _ _, runN_le (by omega)⟩
      unfold tokP wordT
      rw [if_neg (by decide), if_neg (by decide)]
    · rw [if_neg h2, if_neg h2]
      by_cases h3 : inB (bat s k) 65 90 = true
      · rw [if_pos h3, if_pos h3]
        have hw : varByteB (bat s k) = true := by unfold varByteB; rw [h3]; rfl
        have e := runN_yes h hw
        simp only [← e]
        refine ⟨?_, fun _ => (by first | rfl | trivial), by rw [e]; exact runN_ge _ _ _, runN_le (by omega)⟩
        unfold tokP wordT
        rw [if_neg (by decide), if_neg (by decide)]
      · rw [if_neg h3, if_neg h3]
        have hge := runN_ge notQ s (k + 1)
        have hle := runN_le (P := notQ) (s := s) (k := k + 1) (by omega)
        by_cases h4 : bat s k = 39
        · rw [if_pos h4, if_pos h4]
          by_cases hq : runN notQ s (k + 1) = s.size
          · rw [if_pos hq, hq, show min (s.size + 1) s.size = s.size by omega]
            simp only
            refine ⟨?_, fun ht => ?_, by omega, by omega⟩
            · rw [if_neg (by rw [tok0]; simp)]
              unfold tokP
              rw [if_neg (by decide), if_pos rfl]
              exact quo_open h h4 hq
            · rw [tok0] at ht; cases ht
          · rw [if_neg hq, show min (runN notQ s (k + 1) + 1) s.size = runN notQ s (k + 1) + 1 by omega]
            simp only
            refine ⟨?_, fun _ => (by first | rfl | trivial), by omega, by omega⟩
            unfold tokP
            rw [if_neg (by decide), if_pos rfl]
            exact quo_shut h h4 (by omega)
        · rw [if_neg h4, if_neg h4]
          have hw : ∀ E, tokP 5 (s.extract k E) = if tokB 5 0 (s.extract k E) = true then some ⟨5, 0, s.extract k E⟩ else none := fun E => by
            unfold tokP wordT
            rw [if_neg (by decide), if_neg (by decide)]
          by_cases h5 : bat s k = 45
          · rw [if_pos h5]
            by_cases h6 : bat s (k + 1) = 62
            · rw [if_pos h6, if_pos (show bat s k = 45 ∧ bat s (k + 1) = 62 from ⟨h5, h6⟩)]
              have hlt : k + 1 < s.size := in_of (by omega)
              exact ⟨hw _, fun _ => rfl, by simp only; omega, by simp only; omega⟩
            · rw [if_neg h6, if_neg (show ¬ (bat s k = 45 ∧ bat s (k + 1) = 62) from fun hh => h6 hh.2)]
              exact ⟨hw _, fun _ => rfl, by simp only; omega, by simp only; omega⟩
          · rw [if_neg h5, if_neg (show ¬ (bat s k = 45 ∧ bat s (k + 1) = 62) from fun hh => h5 hh.1)]
            exact ⟨hw _, fun _ => rfl, by simp only; omega, by simp only; omega⟩
end Go.Proofs.YtfgcflfnpeapaaaGreatDoor
