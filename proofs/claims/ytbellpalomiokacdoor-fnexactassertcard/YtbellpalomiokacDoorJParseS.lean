/-
  What the model's ParseVal answers, by the text's form: between two quotes, behind a minus, else.
-/
import Derived.Test.YtbellpalomiokacDoorJWhole
import Derived.Test.YtbellpalomiokacDoorJParseI
namespace Go.Proofs.YtbellpalomiokacDoor
open Go.RowKit Go.Lib
set_option linter.unusedVariables false

theorem below_al2 (w : World) (o : Obj) : Below w.heap.size w (w.alloc o) := (Below.refl _ _).alloc (Nat.le_refl _) _
theorem below_none {w w' : World} (h : w.grownBy w' none) : Below w.heap.size w w' := (Below.refl _ _).grown h (Nat.le_refl _) (fun k hk => by cases hk)

set_option maxRecDepth 100000 in
set_option maxHeartbeats 1600000 in
theorem specParse_quote (s : ByteArray) (w : World) (hs : s.size ≤ 1048576) (h1 : (1 : Int) < s.size) (h0 : (((s[0]'(by omega)).toNat : Int) == 39) = true) (h2 : (((s[s.size - 1]'(by omega)).toNat : Int) == 39) = true) :
    Calls Tryd.prog 85 #[.string s] w fun e w' => e = .returned (ansV (valB 2 0 (s.extract 1 (s.size - 1))) 2 0 (s.extract 1 (s.size - 1))) ∧ Below w.heap.size w w' := by
  go_enter Tryd.func85, Tryd.ntmps85
  go_wp2_with fail
  have hsz : (s.extract 1 (s.size - 1)).size ≤ maxLen := by rw [ByteArray.size_extract]; unfold maxLen; omega
  generalize hS : s.extract 1 (s.size - 1) = S at hsz ⊢
  have HS := hide hS
  clear hS h0 h2
  refine (specValOk_any 2 0 S _ hsz).mono ?_
  rintro e w1 ⟨rfl, g1⟩
  have hb := below_none g1
  have HR := hide (box_below (box_old (box_new w (.int .i64 0) (.int .i64 0) (.string ⟨#[]⟩) 50) (by simp) (.cells #[.int .i64 2, .int .i64 0, .string S] 50)) hb (by simp; omega))
  have HV := hide (box_below (box_new (w.alloc (.cells #[.int .i64 0, .int .i64 0, .string ⟨#[]⟩] 50)) (.int .i64 2) (.int .i64 0) (.string S) 50) hb (by simp))
  simp only [World.size_alloc] at HR HV
  have hB : Below w.heap.size w w1 := ((below_al2 w _).alloc (by simp) _).trans (hb.mono (by simp; omega))
  clear hb g1
  obtain ⟨c0, c1, c2, f0, f1, f2⟩ := box_cell HR.out
  obtain ⟨d0, d1, d2, -, -, -⟩ := box_cell HV.out
  cases hv : valB 2 0 S
  · have HB := hide hv
    clear hv
    go_wp2
    refine box_post HR.out (fun w4 h4 gr => ?_)
    clear c0 c1 c2 f0 f1 f2 d0 d1 d2
    obtain ⟨c0, c1, c2, -, -, -⟩ := box_cell h4
    exact bodyPost_ret (v := .tuple #[.agg #[.int .i64 0, .int .i64 0, .string ⟨#[]⟩], .bool false]) (by simp [results, Tryd.results85, go_sem, c0, c1, c2]) rfl ⟨by rw [HS.out]; rw [HB.out]; rfl, below_set hB gr (by omega)⟩
  · have HB := hide hv
    clear hv
    go_wp2
    refine box_post HR.out (fun w4 h4 gr => ?_)
    clear c0 c1 c2 f0 f1 f2 d0 d1 d2
    obtain ⟨c0, c1, c2, -, -, -⟩ := box_cell h4
    exact bodyPost_ret (v := .tuple #[.agg #[.int .i64 2, .int .i64 0, .string S], .bool true]) (by simp [results, Tryd.results85, go_sem, c0, c1, c2]) rfl ⟨by rw [HS.out]; rw [HB.out]; rfl, below_set hB gr (by omega)⟩

theorem decFrom_lt : ∀ (l : List UInt8) (acc u : Nat), decFrom acc l = some u → u < (acc + 1) * 10 ^ l.length
  | [], acc, u, h => by simp [decFrom] at h; subst h; simp
  | c :: r, acc, u, h => by
    simp only [decFrom] at h
    cases hd : digitVal c with
    | none => rw [hd] at h; simp at h
    | some d =>
      rw [hd] at h
      have h10 := (digitVal_some hd).2
      have ih := decFrom_lt r (acc * 10 + d) u h
      refine Nat.lt_of_lt_of_le ih ?_
      rw [List.length_cons, Nat.pow_succ, Nat.mul_comm (10 ^ r.length) 10, ← Nat.mul_assoc]
      exact Nat.mul_le_mul_right _ (by omega)
theorem wholeL_bd (l : List UInt8) : -1 ≤ wholeL l ∧ wholeL l < 10000000000 := by
  unfold wholeL
  split
  · omega
  · rename_i hc
    have hlen : l.length ≤ 10 := by omega
    cases hd : decFrom 0 l with
    | none => simp only []; omega
    | some u =>
      have := decFrom_lt l 0 u hd
      have h2 : 10 ^ l.length ≤ 10 ^ 10 := Nat.pow_le_pow_right (by omega) hlen
      simp only []
      omega
/-- the answer, of a number or none -/
def ansN : Option Int → Value
  | some n => ansV true 1 n ⟨#[]⟩
  | none => ansV false 1 0 ⟨#[]⟩
theorem numV_minus {l : List UInt8} {m : Int} (h1 : 1 < l.length) (h0 : l.head? = some 45) (hm : wholeL l.tail = m) : numV l = if 0 ≤ -m then none else if numOk (-m) then some (-m) else none := by
  unfold numV; rw [if_pos ⟨h1, h0⟩, hm]
theorem numV_plain {l : List UInt8} {m : Int} (h1 : ¬ (1 < l.length ∧ l.head? = some 45)) (hm : wholeL l = m) : numV l = if m < 0 then none else if numOk m then some m else none := by
  unfold numV; rw [if_neg h1, hm]
theorem ansN_of {n : Int} {o : Option Int} (h : o = if numOk n then some n else none) : ansV (valB 1 n ⟨#[]⟩) 1 n ⟨#[]⟩ = ansN o := by
  rw [valB_whole, h]
  cases numOk n <;> rfl
theorem head_of {s : ByteArray} (h : 0 < s.size) : s.data.toList.head? = some (s[0]'h) := by
  have hl : s.data.toList.length = s.size := by rw [Array.length_toList]; rfl
  rw [List.head?_eq_getElem?, List.getElem?_eq_getElem (by omega)]
  simp [ByteArray.getElem_eq_getElem_data]
theorem tail_of (s : ByteArray) : (s.extract 1 s.size).data.toList = s.data.toList.tail := by
  have hl : s.data.toList.length = s.size := by rw [Array.length_toList]; rfl
  rw [ByteArray.data_extract, Array.toList_extract, List.extract_eq_take_drop, List.take_of_length_le (by simp), List.drop_one]

set_option maxRecDepth 100000 in
set_option maxHeartbeats 1600000 in
theorem specParse_minus (s : ByteArray) (w : World) (hs : s.size ≤ 1048576) (h1 : (1 : Int) < s.size) (h0 : (((s[0]'(by omega)).toNat : Int) == 39) = false) (h2 : (((s[0]'(by omega)).toNat : Int) == 45) = true) (hnum : ∀ m, wholeL (s.extract 1 s.size).data.toList = m → numV s.data.toList = if 0 ≤ -m then none else if numOk (-m) then some (-m) else none) :
    Calls Tryd.prog 85 #[.string s] w fun e w' => e = .returned (ansN (numV s.data.toList)) ∧ Below w.heap.size w w' := by
  have HNum := hide hnum
  clear hnum
  go_enter Tryd.func85, Tryd.ntmps85
  go_wp2_with fail
  have hsz : (s.extract 1 s.size).size ≤ maxLen := by unfold maxLen; first | omega | (rw [ByteArray.size_extract]; omega)
  refine (l2Whole_any (s.extract 1 s.size) _ hsz).mono ?_
  rintro e w' ⟨rfl, rfl⟩
  have hbd := wholeL_bd (s.extract 1 s.size).data.toList
  generalize hm : wholeL (s.extract 1 s.size).data.toList = m at hbd ⊢
  have HN0 := hide (HNum.out m hm)
  clear HNum hm hsz
  obtain ⟨hl, hu⟩ := hbd
  by_cases hneg : 0 ≤ -m
  · have HN : Hid (numV s.data.toList = none) := HN0.out.trans (if_pos hneg)
    clear HN0
    go_wp2
    go_returns
    exact ⟨by rw [HN.out]; rfl, by go_grown⟩
  · have HN := hide (ansN_of (HN0.out.trans (if_neg hneg)))
    clear HN0
    go_wp2_with fail
    have HR0 := hide (show (((w.alloc (.cells #[.int .i64 0, .int .i64 0, .string ⟨#[]⟩] 50)).alloc (.cells #[.int .i64 1, .int .i64 (-m), .string ⟨#[]⟩] 50)).heap[w.heap.size]? = some (.cells #[.int .i64 0, .int .i64 0, .string ⟨#[]⟩] 50 (0, 0))) by
      exact box_old (box_new w _ _ _ _) (by simp) _)
    have HV0 := hide (show (((w.alloc (.cells #[.int .i64 0, .int .i64 0, .string ⟨#[]⟩] 50)).alloc (.cells #[.int .i64 1, .int .i64 (-m), .string ⟨#[]⟩] 50)).heap[w.heap.size + 1]? = some (.cells #[.int .i64 1, .int .i64 (-m), .string ⟨#[]⟩] 50 (0, 0))) by
      have := box_new (w.alloc (.cells #[.int .i64 0, .int .i64 0, .string ⟨#[]⟩] 50)) (.int .i64 1) (.int .i64 (-m)) (.string ⟨#[]⟩) 50
      rw [World.size_alloc] at this
      exact this)
    have hB0 : Below w.heap.size w ((w.alloc (.cells #[.int .i64 0, .int .i64 0, .string ⟨#[]⟩] 50)).alloc (.cells #[.int .i64 1, .int .i64 (-m), .string ⟨#[]⟩] 50)) := (below_al2 w _).alloc (by simp) _
    have hz0 : w.heap.size + 2 ≤ ((w.alloc (.cells #[.int .i64 0, .int .i64 0, .string ⟨#[]⟩] 50)).alloc (.cells #[.int .i64 1, .int .i64 (-m), .string ⟨#[]⟩] 50)).heap.size := by simp
    generalize (w.alloc (.cells #[.int .i64 0, .int .i64 0, .string ⟨#[]⟩] 50)).alloc (.cells #[.int .i64 1, .int .i64 (-m), .string ⟨#[]⟩] 50) = w0 at HR0 HV0 hB0 hz0 ⊢
    refine (specValOk_any 1 (-m) ⟨#[]⟩ _ (by unfold maxLen; decide)).mono ?_
    rintro e w1 ⟨rfl, g1⟩
    have hb := below_none g1
    have HR := hide (box_below (q := w.heap.size) HR0.out hb (by omega))
    have HV := hide (box_below (q := w.heap.size + 1) HV0.out hb (by omega))
    have hB : Below w.heap.size w w1 := hB0.trans (hb.mono hB0.size)
    clear hb g1 HR0 HV0 hB0
    obtain ⟨c0, c1, c2, f0, f1, f2⟩ := box_cell HR.out
    obtain ⟨d0, d1, d2, -, -, -⟩ := box_cell HV.out
    cases hv : valB 1 (-m) ⟨#[]⟩
    · rw [hv] at HN
      clear hv
      go_wp2
      refine box_post HR.out (fun w4 h4 gr => ?_)
      clear c0 c1 c2 f0 f1 f2 d0 d1 d2
      obtain ⟨c0, c1, c2, -, -, -⟩ := box_cell h4
      exact bodyPost_ret (v := .tuple #[.agg #[.int .i64 0, .int .i64 0, .string ⟨#[]⟩], .bool false]) (by simp [results, Tryd.results85, go_sem, c0, c1, c2]) rfl ⟨by rw [← HN.out]; rfl, below_set hB gr (by omega)⟩
    · rw [hv] at HN
      clear hv
      go_wp2
      refine box_post HR.out (fun w4 h4 gr => ?_)
      clear c0 c1 c2 f0 f1 f2 d0 d1 d2
      obtain ⟨c0, c1, c2, -, -, -⟩ := box_cell h4
      exact bodyPost_ret (v := .tuple #[.agg #[.int .i64 1, .int .i64 (-m), .string ⟨#[]⟩], .bool true]) (by simp [results, Tryd.results85, go_sem, c0, c1, c2]) rfl ⟨by rw [← HN.out]; rfl, below_set hB gr (by omega)⟩

set_option maxRecDepth 100000 in
set_option maxHeartbeats 1600000 in
theorem specParse_short (s : ByteArray) (w : World) (hs : s.size ≤ 1048576) (h1 : ¬ (1 : Int) < s.size) (hnum : ∀ m, wholeL s.data.toList = m → numV s.data.toList = if m < 0 then none else if numOk m then some m else none) :
    Calls Tryd.prog 85 #[.string s] w fun e w' => e = .returned (ansN (numV s.data.toList)) ∧ Below w.heap.size w w' := by
  have HNum := hide hnum
  clear hnum
  go_enter Tryd.func85, Tryd.ntmps85
  go_wp2_with fail
  have hsz : (s).size ≤ maxLen := by unfold maxLen; first | omega | (rw [ByteArray.size_extract]; omega)
  refine (l2Whole_any (s) _ hsz).mono ?_
  rintro e w' ⟨rfl, rfl⟩
  have hbd := wholeL_bd (s).data.toList
  generalize hm : wholeL (s).data.toList = m at hbd ⊢
  have HN0 := hide (HNum.out m hm)
  clear HNum hm hsz
  obtain ⟨hl, hu⟩ := hbd
  by_cases hneg : m < 0
  · have HN : Hid (numV s.data.toList = none) := HN0.out.trans (if_pos hneg)
    clear HN0
    go_wp2
    go_returns
    exact ⟨by rw [HN.out]; rfl, by go_grown⟩
  · have HN := hide (ansN_of (HN0.out.trans (if_neg hneg)))
    clear HN0
    go_wp2_with fail
    have HR0 := hide (show (((w.alloc (.cells #[.int .i64 0, .int .i64 0, .string ⟨#[]⟩] 50)).alloc (.cells #[.int .i64 1, .int .i64 (m), .string ⟨#[]⟩] 50)).heap[w.heap.size]? = some (.cells #[.int .i64 0, .int .i64 0, .string ⟨#[]⟩] 50 (0, 0))) by
      exact box_old (box_new w _ _ _ _) (by simp) _)
    have HV0 := hide (show (((w.alloc (.cells #[.int .i64 0, .int .i64 0, .string ⟨#[]⟩] 50)).alloc (.cells #[.int .i64 1, .int .i64 (m), .string ⟨#[]⟩] 50)).heap[w.heap.size + 1]? = some (.cells #[.int .i64 1, .int .i64 (m), .string ⟨#[]⟩] 50 (0, 0))) by
      have := box_new (w.alloc (.cells #[.int .i64 0, .int .i64 0, .string ⟨#[]⟩] 50)) (.int .i64 1) (.int .i64 (m)) (.string ⟨#[]⟩) 50
      rw [World.size_alloc] at this
      exact this)
    have hB0 : Below w.heap.size w ((w.alloc (.cells #[.int .i64 0, .int .i64 0, .string ⟨#[]⟩] 50)).alloc (.cells #[.int .i64 1, .int .i64 (m), .string ⟨#[]⟩] 50)) := (below_al2 w _).alloc (by simp) _
    have hz0 : w.heap.size + 2 ≤ ((w.alloc (.cells #[.int .i64 0, .int .i64 0, .string ⟨#[]⟩] 50)).alloc (.cells #[.int .i64 1, .int .i64 (m), .string ⟨#[]⟩] 50)).heap.size := by simp
    generalize (w.alloc (.cells #[.int .i64 0, .int .i64 0, .string ⟨#[]⟩] 50)).alloc (.cells #[.int .i64 1, .int .i64 (m), .string ⟨#[]⟩] 50) = w0 at HR0 HV0 hB0 hz0 ⊢
    refine (specValOk_any 1 (m) ⟨#[]⟩ _ (by unfold maxLen; decide)).mono ?_
    rintro e w1 ⟨rfl, g1⟩
    have hb := below_none g1
    have HR := hide (box_below (q := w.heap.size) HR0.out hb (by omega))
    have HV := hide (box_below (q := w.heap.size + 1) HV0.out hb (by omega))
    have hB : Below w.heap.size w w1 := hB0.trans (hb.mono hB0.size)
    clear hb g1 HR0 HV0 hB0
    obtain ⟨c0, c1, c2, f0, f1, f2⟩ := box_cell HR.out
    obtain ⟨d0, d1, d2, -, -, -⟩ := box_cell HV.out
    cases hv : valB 1 (m) ⟨#[]⟩
    · rw [hv] at HN
      clear hv
      go_wp2
      refine box_post HR.out (fun w4 h4 gr => ?_)
      clear c0 c1 c2 f0 f1 f2 d0 d1 d2
      obtain ⟨c0, c1, c2, -, -, -⟩ := box_cell h4
      exact bodyPost_ret (v := .tuple #[.agg #[.int .i64 0, .int .i64 0, .string ⟨#[]⟩], .bool false]) (by simp [results, Tryd.results85, go_sem, c0, c1, c2]) rfl ⟨by rw [← HN.out]; rfl, below_set hB gr (by omega)⟩
    · rw [hv] at HN
      clear hv
      go_wp2
      refine box_post HR.out (fun w4 h4 gr => ?_)
      clear c0 c1 c2 f0 f1 f2 d0 d1 d2
      obtain ⟨c0, c1, c2, -, -, -⟩ := box_cell h4
      exact bodyPost_ret (v := .tuple #[.agg #[.int .i64 1, .int .i64 (m), .string ⟨#[]⟩], .bool true]) (by simp [results, Tryd.results85, go_sem, c0, c1, c2]) rfl ⟨by rw [← HN.out]; rfl, below_set hB gr (by omega)⟩

set_option maxRecDepth 100000 in
set_option maxHeartbeats 1600000 in
theorem specParse_half (s : ByteArray) (w : World) (hs : s.size ≤ 1048576) (h1 : (1 : Int) < s.size) (h0 : (((s[0]'(by omega)).toNat : Int) == 39) = true) (h2 : (((s[s.size - 1]'(by omega)).toNat : Int) == 39) = false) (h3 : (((s[0]'(by omega)).toNat : Int) == 45) = false) (hnum : ∀ m, wholeL s.data.toList = m → numV s.data.toList = if m < 0 then none else if numOk m then some m else none) :
    Calls Tryd.prog 85 #[.string s] w fun e w' => e = .returned (ansN (numV s.data.toList)) ∧ Below w.heap.size w w' := by
  have HNum := hide hnum
  clear hnum
  go_enter Tryd.func85, Tryd.ntmps85
  go_wp2_with fail
  have hsz : (s).size ≤ maxLen := by unfold maxLen; first | omega | (rw [ByteArray.size_extract]; omega)
  refine (l2Whole_any (s) _ hsz).mono ?_
  rintro e w' ⟨rfl, rfl⟩
  have hbd := wholeL_bd (s).data.toList
  generalize hm : wholeL (s).data.toList = m at hbd ⊢
  have HN0 := hide (HNum.out m hm)
  clear HNum hm hsz
  obtain ⟨hl, hu⟩ := hbd
  by_cases hneg : m < 0
  · have HN : Hid (numV s.data.toList = none) := HN0.out.trans (if_pos hneg)
    clear HN0
    go_wp2
    go_returns
    exact ⟨by rw [HN.out]; rfl, by go_grown⟩
  · have HN := hide (ansN_of (HN0.out.trans (if_neg hneg)))
    clear HN0
    go_wp2_with fail
    have HR0 := hide (show (((w.alloc (.cells #[.int .i64 0, .int .i64 0, .string ⟨#[]⟩] 50)).alloc (.cells #[.int .i64 1, .int .i64 (m), .string ⟨#[]⟩] 50)).heap[w.heap.size]? = some (.cells #[.int .i64 0, .int .i64 0, .string ⟨#[]⟩] 50 (0, 0))) by
      exact box_old (box_new w _ _ _ _) (by simp) _)
    have HV0 := hide (show (((w.alloc (.cells #[.int .i64 0, .int .i64 0, .string ⟨#[]⟩] 50)).alloc (.cells #[.int .i64 1, .int .i64 (m), .string ⟨#[]⟩] 50)).heap[w.heap.size + 1]? = some (.cells #[.int .i64 1, .int .i64 (m), .string ⟨#[]⟩] 50 (0, 0))) by
      have := box_new (w.alloc (.cells #[.int .i64 0, .int .i64 0, .string ⟨#[]⟩] 50)) (.int .i64 1) (.int .i64 (m)) (.string ⟨#[]⟩) 50
      rw [World.size_alloc] at this
      exact this)
    have hB0 : Below w.heap.size w ((w.alloc (.cells #[.int .i64 0, .int .i64 0, .string ⟨#[]⟩] 50)).alloc (.cells #[.int .i64 1, .int .i64 (m), .string ⟨#[]⟩] 50)) := (below_al2 w _).alloc (by simp) _
    have hz0 : w.heap.size + 2 ≤ ((w.alloc (.cells #[.int .i64 0, .int .i64 0, .string ⟨#[]⟩] 50)).alloc (.cells #[.int .i64 1, .int .i64 (m), .string ⟨#[]⟩] 50)).heap.size := by simp
    generalize (w.alloc (.cells #[.int .i64 0, .int .i64 0, .string ⟨#[]⟩] 50)).alloc (.cells #[.int .i64 1, .int .i64 (m), .string ⟨#[]⟩] 50) = w0 at HR0 HV0 hB0 hz0 ⊢
    refine (specValOk_any 1 (m) ⟨#[]⟩ _ (by unfold maxLen; decide)).mono ?_
    rintro e w1 ⟨rfl, g1⟩
    have hb := below_none g1
    have HR := hide (box_below (q := w.heap.size) HR0.out hb (by omega))
    have HV := hide (box_below (q := w.heap.size + 1) HV0.out hb (by omega))
    have hB : Below w.heap.size w w1 := hB0.trans (hb.mono hB0.size)
    clear hb g1 HR0 HV0 hB0
    obtain ⟨c0, c1, c2, f0, f1, f2⟩ := box_cell HR.out
    obtain ⟨d0, d1, d2, -, -, -⟩ := box_cell HV.out
    cases hv : valB 1 (m) ⟨#[]⟩
    · rw [hv] at HN
      clear hv
      go_wp2
      refine box_post HR.out (fun w4 h4 gr => ?_)
      clear c0 c1 c2 f0 f1 f2 d0 d1 d2
      obtain ⟨c0, c1, c2, -, -, -⟩ := box_cell h4
      exact bodyPost_ret (v := .tuple #[.agg #[.int .i64 0, .int .i64 0, .string ⟨#[]⟩], .bool false]) (by simp [results, Tryd.results85, go_sem, c0, c1, c2]) rfl ⟨by rw [← HN.out]; rfl, below_set hB gr (by omega)⟩
    · rw [hv] at HN
      clear hv
      go_wp2
      refine box_post HR.out (fun w4 h4 gr => ?_)
      clear c0 c1 c2 f0 f1 f2 d0 d1 d2
      obtain ⟨c0, c1, c2, -, -, -⟩ := box_cell h4
      exact bodyPost_ret (v := .tuple #[.agg #[.int .i64 1, .int .i64 (m), .string ⟨#[]⟩], .bool true]) (by simp [results, Tryd.results85, go_sem, c0, c1, c2]) rfl ⟨by rw [← HN.out]; rfl, below_set hB gr (by omega)⟩

set_option maxRecDepth 100000 in
set_option maxHeartbeats 1600000 in
theorem specParse_plain (s : ByteArray) (w : World) (hs : s.size ≤ 1048576) (h1 : (1 : Int) < s.size) (h0 : (((s[0]'(by omega)).toNat : Int) == 39) = false) (h3 : (((s[0]'(by omega)).toNat : Int) == 45) = false) (hnum : ∀ m, wholeL s.data.toList = m → numV s.data.toList = if m < 0 then none else if numOk m then some m else none) :
    Calls Tryd.prog 85 #[.string s] w fun e w' => e = .returned (ansN (numV s.data.toList)) ∧ Below w.heap.size w w' := by
  have HNum := hide hnum
  clear hnum
  go_enter Tryd.func85, Tryd.ntmps85
  go_wp2_with fail
  have hsz : (s).size ≤ maxLen := by unfold maxLen; first | omega | (rw [ByteArray.size_extract]; omega)
  refine (l2Whole_any (s) _ hsz).mono ?_
  rintro e w' ⟨rfl, rfl⟩
  have hbd := wholeL_bd (s).data.toList
  generalize hm : wholeL (s).data.toList = m at hbd ⊢
  have HN0 := hide (HNum.out m hm)
  clear HNum hm hsz
  obtain ⟨hl, hu⟩ := hbd
  by_cases hneg : m < 0
  · have HN : Hid (numV s.data.toList = none) := HN0.out.trans (if_pos hneg)
    clear HN0
    go_wp2
    go_returns
    exact ⟨by rw [HN.out]; rfl, by go_grown⟩
  · have HN := hide (ansN_of (HN0.out.trans (if_neg hneg)))
    clear HN0
    go_wp2_with fail
    have HR0 := hide (show (((w.alloc (.cells #[.int .i64 0, .int .i64 0, .string ⟨#[]⟩] 50)).alloc (.cells #[.int .i64 1, .int .i64 (m), .string ⟨#[]⟩] 50)).heap[w.heap.size]? = some (.cells #[.int .i64 0, .int .i64 0, .string ⟨#[]⟩] 50 (0, 0))) by
      exact box_old (box_new w _ _ _ _) (by simp) _)
    have HV0 := hide (show (((w.alloc (.cells #[.int .i64 0, .int .i64 0, .string ⟨#[]⟩] 50)).alloc (.cells #[.int .i64 1, .int .i64 (m), .string ⟨#[]⟩] 50)).heap[w.heap.size + 1]? = some (.cells #[.int .i64 1, .int .i64 (m), .string ⟨#[]⟩] 50 (0, 0))) by
      have := box_new (w.alloc (.cells #[.int .i64 0, .int .i64 0, .string ⟨#[]⟩] 50)) (.int .i64 1) (.int .i64 (m)) (.string ⟨#[]⟩) 50
      rw [World.size_alloc] at this
      exact this)
    have hB0 : Below w.heap.size w ((w.alloc (.cells #[.int .i64 0, .int .i64 0, .string ⟨#[]⟩] 50)).alloc (.cells #[.int .i64 1, .int .i64 (m), .string ⟨#[]⟩] 50)) := (below_al2 w _).alloc (by simp) _
    have hz0 : w.heap.size + 2 ≤ ((w.alloc (.cells #[.int .i64 0, .int .i64 0, .string ⟨#[]⟩] 50)).alloc (.cells #[.int .i64 1, .int .i64 (m), .string ⟨#[]⟩] 50)).heap.size := by simp
    generalize (w.alloc (.cells #[.int .i64 0, .int .i64 0, .string ⟨#[]⟩] 50)).alloc (.cells #[.int .i64 1, .int .i64 (m), .string ⟨#[]⟩] 50) = w0 at HR0 HV0 hB0 hz0 ⊢
    refine (specValOk_any 1 (m) ⟨#[]⟩ _ (by unfold maxLen; decide)).mono ?_
    rintro e w1 ⟨rfl, g1⟩
    have hb := below_none g1
    have HR := hide (box_below (q := w.heap.size) HR0.out hb (by omega))
    have HV := hide (box_below (q := w.heap.size + 1) HV0.out hb (by omega))
    have hB : Below w.heap.size w w1 := hB0.trans (hb.mono hB0.size)
    clear hb g1 HR0 HV0 hB0
    obtain ⟨c0, c1, c2, f0, f1, f2⟩ := box_cell HR.out
    obtain ⟨d0, d1, d2, -, -, -⟩ := box_cell HV.out
    cases hv : valB 1 (m) ⟨#[]⟩
    · rw [hv] at HN
      clear hv
      go_wp2
      refine box_post HR.out (fun w4 h4 gr => ?_)
      clear c0 c1 c2 f0 f1 f2 d0 d1 d2
      obtain ⟨c0, c1, c2, -, -, -⟩ := box_cell h4
      exact bodyPost_ret (v := .tuple #[.agg #[.int .i64 0, .int .i64 0, .string ⟨#[]⟩], .bool false]) (by simp [results, Tryd.results85, go_sem, c0, c1, c2]) rfl ⟨by rw [← HN.out]; rfl, below_set hB gr (by omega)⟩
    · rw [hv] at HN
      clear hv
      go_wp2
      refine box_post HR.out (fun w4 h4 gr => ?_)
      clear c0 c1 c2 f0 f1 f2 d0 d1 d2
      obtain ⟨c0, c1, c2, -, -, -⟩ := box_cell h4
      exact bodyPost_ret (v := .tuple #[.agg #[.int .i64 1, .int .i64 (m), .string ⟨#[]⟩], .bool true]) (by simp [results, Tryd.results85, go_sem, c0, c1, c2]) rfl ⟨by rw [← HN.out]; rfl, below_set hB gr (by omega)⟩
end Go.Proofs.YtbellpalomiokacDoor
