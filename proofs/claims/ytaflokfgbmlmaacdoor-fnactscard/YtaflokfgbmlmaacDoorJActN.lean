/-
  An act, a term has a text just if it is right.
-/
import Derived.Test.YtaflokfgbmlmaacDoorJActT
namespace Go.Proofs.YtaflokfgbmlmaacDoor
set_option linter.unusedVariables false

theorem itoa_neA (n : Int) : Lib.itoa n ≠ [] := by
  unfold Lib.itoa; split
  · simp
  · exact decDigits_ne _
theorem size_ne {a b : ByteArray} (h : a.size ≠ 0) : (a ++ b).size ≠ 0 := by rw [ByteArray.size_append]; omega
theorem txV_pos {v : V3} (h : v.ok = true) : v.tx.size ≠ 0 := by
  obtain ⟨K, N, S⟩ := v
  have h' : valB K N S = true := h
  show (textV K N S).size ≠ 0
  by_cases h1 : K = 1
  · subst h1
    rw [textV_num h']
    intro e
    have e2 : Lib.itoa N = [] := List.eq_nil_of_length_eq_zero (by simpa [ByteArray.size] using e)
    exact itoa_neA N e2
  · rw [textV_text h' h1]
    exact size_ne (size_ne (by decide))
theorem txA_pos {x : A5} (h : x.ok = true) : x.tx.size ≠ 0 := by
  obtain ⟨K, S, V⟩ := x
  have h' : argB K S V = true := h
  show (argT K S V).size ≠ 0
  unfold argT
  unfold argB at h'
  by_cases h1 : K = 1
  · rw [if_pos h1] at h' ⊢
    have := ((Bool.and_eq_true _ _).mp h').1
    unfold varB inB at this
    simp only [Bool.and_eq_true, decide_eq_true_eq] at this
    omega
  · rw [if_neg h1] at h' ⊢
    by_cases h2 : K = 2
    · rw [if_pos h2] at h' ⊢
      exact txV_pos (v := V) ((Bool.and_eq_true _ _).mp h').1
    · rw [if_neg h2]
      decide
theorem exprT_is (Op : ByteArray) (L R : A5) : (!(exprT Op L R).toList.isEmpty) = exprB Op L R := by
  cases h : exprB Op L R
  · rw [exprT_no h, ByteArray.toList_eq]; rfl
  · have hn : (exprT Op L R).size ≠ 0 := by
      by_cases h0 : Op.size = 0
      · have e : Op = ⟨#[]⟩ := empty_of_size h0
        subst e
        rw [exprT_one h]
        exact txA_pos (exprB_left h)
      · rw [exprT_two h h0]
        exact size_ne (size_ne (size_ne (size_ne (txA_pos (exprB_left h)))))
    rw [isEmpty_false hn]; rfl
theorem actT_is (K : Int) (nm : ByteArray) (L : List X11) (N : Int) (un : ByteArray) : (!(actT K nm L N un).toList.isEmpty) = actB K nm L N un := by
  cases h : actB K nm L N un
  · rw [actT_no h, ByteArray.toList_eq]; rfl
  · have hn : (actT K nm L N un).size ≠ 0 := by
      rw [actT_yes h]
      unfold actW
      split
      · exact size_ne (by decide)
      · split
        · exact size_ne (by decide)
        · split
          · split
            · exact size_ne (by decide)
            · exact size_ne (size_ne (size_ne (by decide)))
          · split
            · exact size_ne (size_ne (size_ne (by decide)))
            · split
              · decide
              · decide
    rw [isEmpty_false hn]; rfl
end Go.Proofs.YtaflokfgbmlmaacDoor
