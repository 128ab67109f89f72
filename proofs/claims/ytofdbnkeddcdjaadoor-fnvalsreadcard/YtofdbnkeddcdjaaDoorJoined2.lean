/-
  Texts of this claim joined into one: ParseS, Parse, ValsP, PutNum, PutTextS, OwnD, PutValS, Keep6, DrawR, PutNumI, AddText, PutValI, GetNumI, GetTextI, GetValI, GetNum, GetTextS, GetValS, CardBase.
-/
import Derived.Test.YtofdbnkeddcdjaaDoorJoined1
import Derived.Laws.AppendOwnNone
import Derived.Laws.CopyOwn
import Derived.Laws.Bits128
import Derived.Handy
import Derived.Deep.RegionHeld3
import Derived.Test.YtofdbnkeddcdjaaDoorRows
import Derived.Test.YtofdbnkeddcdjaaDoorCards
import Derived.Test.YtofdbnkeddcdjaaDoorTie
import Derived.ProofKit
import Derived.LaidMore
import Derived.Stop.Joined
import Derived.Stop.LaidErr
import Derived.Lib.LaidTab
import Derived.SevenTiedAt
import Derived.Lib.SmallJoins
/-
  What the model's ParseVal answers, by the text's form: between two quotes, behind a minus, else.
-/
namespace Go.Proofs.YtofdbnkeddcdjaaDoor
open Go.RowKit Go.Lib
set_option linter.unusedVariables false

theorem below_al2 (w : World) (o : Obj) : Below w.heap.size w (w.alloc o) := (Below.refl _ _).alloc (Nat.le_refl _) _
theorem below_none {w w' : World} (h : w.grownBy w' none) : Below w.heap.size w w' := (Below.refl _ _).grown h (Nat.le_refl _) (fun k hk => by cases hk)

set_option maxRecDepth 100000 in
set_option maxHeartbeats 1600000 in
theorem specParse_quote (s : ByteArray) (w : World) (hs : s.size ≤ 1048576) (h1 : (1 : Int) < s.size) (h0 : (((s[0]'(by omega)).toNat : Int) == 39) = true) (h2 : (((s[s.size - 1]'(by omega)).toNat : Int) == 39) = true) :
    Calls Tryd.prog 14 #[.string s] w fun e w' => e = .returned (ansV (valB 2 0 (s.extract 1 (s.size - 1))) 2 0 (s.extract 1 (s.size - 1))) ∧ Below w.heap.size w w' := by
  go_enter Tryd.func14, Tryd.ntmps14
  go_wp2_with fail
  have hsz : (s.extract 1 (s.size - 1)).size ≤ maxLen := by rw [ByteArray.size_extract]; unfold maxLen; omega
  generalize hS : s.extract 1 (s.size - 1) = S at hsz ⊢
  have HS := hide hS
  clear hS h0 h2
  refine (specValOk_any 2 0 S _ hsz).mono ?_
  rintro e w1 ⟨rfl, g1⟩
  have hb := below_none g1
  have HR := hide (box_below (box_old (box_new w (.int .i64 0) (.int .i64 0) (.string ⟨#[]⟩) 25) (by simp) (.cells #[.int .i64 2, .int .i64 0, .string S] 25)) hb (by simp; omega))
  have HV := hide (box_below (box_new (w.alloc (.cells #[.int .i64 0, .int .i64 0, .string ⟨#[]⟩] 25)) (.int .i64 2) (.int .i64 0) (.string S) 25) hb (by simp))
  simp only [World.size_alloc] at HR HV
  have hB : Below w.heap.size w w1 := ((below_al2 w _).alloc (by simp) _).trans (hb.mono (by simp; omega))
  clear hb g1
  obtain ⟨c0, c1, c2, f0, f1, f2⟩ := box_cell HR.out
  obtain ⟨d0, d1, d2, -, -, -⟩ := box_cell HV.out
  cases hv : valB 2 0 S
  · have HB := hide hv
    clear hv
    go_wp2
    refine box_post HR.out (fun w4 h4 gr => ?_)
    clear c0 c1 c2 f0 f1 f2 d0 d1 d2
    obtain ⟨c0, c1, c2, -, -, -⟩ := box_cell h4
    exact bodyPost_ret (v := .tuple #[.agg #[.int .i64 0, .int .i64 0, .string ⟨#[]⟩], .bool false]) (by simp [results, Tryd.results14, go_sem, c0, c1, c2]) rfl ⟨by rw [HS.out]; rw [HB.out]; rfl, below_set hB gr (by omega)⟩
  · have HB := hide hv
    clear hv
    go_wp2
    refine box_post HR.out (fun w4 h4 gr => ?_)
    clear c0 c1 c2 f0 f1 f2 d0 d1 d2
    obtain ⟨c0, c1, c2, -, -, -⟩ := box_cell h4
    exact bodyPost_ret (v := .tuple #[.agg #[.int .i64 2, .int .i64 0, .string S], .bool true]) (by simp [results, Tryd.results14, go_sem, c0, c1, c2]) rfl ⟨by rw [HS.out]; rw [HB.out]; rfl, below_set hB gr (by omega)⟩

theorem decFrom_lt : ∀ (l : List UInt8) (acc u : Nat), decFrom acc l = some u → u < (acc + 1) * 10 ^ l.length
  | [], acc, u, h => by simp [decFrom] at h; subst h; simp
  | c :: r, acc, u, h => by
    simp only [decFrom] at h
    cases hd : digitVal c with
    | none => rw [hd] at h; simp at h
    | some d =>
      rw [hd] at h
      have h10 := (digitVal_some hd).2
      have ih := decFrom_lt r (acc * 10 + d) u h
      refine Nat.lt_of_lt_of_le ih ?_
      rw [List.length_cons, Nat.pow_succ, Nat.mul_comm (10 ^ r.length) 10, ← Nat.mul_assoc]
      exact Nat.mul_le_mul_right _ (by omega)
theorem wholeL_bd (l : List UInt8) : -1 ≤ wholeL l ∧ wholeL l < 10000000000 := by
  unfold wholeL
  split
  · omega
  · rename_i hc
    have hlen : l.length ≤ 10 := by omega
    cases hd : decFrom 0 l with
    | none => simp only []; omega
    | some u =>
      have := decFrom_lt l 0 u hd
      have h2 : 10 ^ l.length ≤ 10 ^ 10 := Nat.pow_le_pow_right (by omega) hlen
      simp only []
      omega
/-- the answer, of a number or none -/
def ansN : Option Int → Value
  | some n => ansV true 1 n ⟨#[]⟩
  | none => ansV false 1 0 ⟨#[]⟩
theorem numV_minus {l : List UInt8} {m : Int} (h1 : 1 < l.length) (h0 : l.head? = some 45) (hm : wholeL l.tail = m) : numV l = if 0 ≤ -m then none else if numOk (-m) then some (-m) else none := by
  unfold numV; rw [if_pos ⟨h1, h0⟩, hm]
theorem numV_plain {l : List UInt8} {m : Int} (h1 : ¬ (1 < l.length ∧ l.head? = some 45)) (hm : wholeL l = m) : numV l = if m < 0 then none else if numOk m then some m else none := by
  unfold numV; rw [if_neg h1, hm]
theorem ansN_of {n : Int} {o : Option Int} (h : o = if numOk n then some n else none) : ansV (valB 1 n ⟨#[]⟩) 1 n ⟨#[]⟩ = ansN o := by
  rw [valB_whole, h]
  cases numOk n <;> rfl
theorem head_of {s : ByteArray} (h : 0 < s.size) : s.data.toList.head? = some (s[0]'h) := by
  have hl : s.data.toList.length = s.size := by rw [Array.length_toList]; rfl
  rw [List.head?_eq_getElem?, List.getElem?_eq_getElem (by omega)]
  simp [ByteArray.getElem_eq_getElem_data]
theorem tail_of (s : ByteArray) : (s.extract 1 s.size).data.toList = s.data.toList.tail := by
  have hl : s.data.toList.length = s.size := by rw [Array.length_toList]; rfl
  rw [ByteArray.data_extract, Array.toList_extract, List.extract_eq_take_drop, List.take_of_length_le (by simp), List.drop_one]

set_option maxRecDepth 100000 in
set_option maxHeartbeats 1600000 in
theorem specParse_minus (s : ByteArray) (w : World) (hs : s.size ≤ 1048576) (h1 : (1 : Int) < s.size) (h0 : (((s[0]'(by omega)).toNat : Int) == 39) = false) (h2 : (((s[0]'(by omega)).toNat : Int) == 45) = true) (hnum : ∀ m, wholeL (s.extract 1 s.size).data.toList = m → numV s.data.toList = if 0 ≤ -m then none else if numOk (-m) then some (-m) else none) :
    Calls Tryd.prog 14 #[.string s] w fun e w' => e = .returned (ansN (numV s.data.toList)) ∧ Below w.heap.size w w' := by
  have HNum := hide hnum
  clear hnum
  go_enter Tryd.func14, Tryd.ntmps14
  go_wp2_with fail
  have hsz : (s.extract 1 s.size).size ≤ maxLen := by unfold maxLen; first | omega | (rw [ByteArray.size_extract]; omega)
  refine (l2Whole_any (s.extract 1 s.size) _ hsz).mono ?_
  rintro e w' ⟨rfl, rfl⟩
  have hbd := wholeL_bd (s.extract 1 s.size).data.toList
  generalize hm : wholeL (s.extract 1 s.size).data.toList = m at hbd ⊢
  have HN0 := hide (HNum.out m hm)
  clear HNum hm hsz
  obtain ⟨hl, hu⟩ := hbd
  by_cases hneg : 0 ≤ -m
  · have HN : Hid (numV s.data.toList = none) := HN0.out.trans (if_pos hneg)
    clear HN0
    go_wp2
    go_returns
    exact ⟨by rw [HN.out]; rfl, by go_grown⟩
  · have HN := hide (ansN_of (HN0.out.trans (if_neg hneg)))
    clear HN0
    go_wp2_with fail
    have HR0 := hide (show (((w.alloc (.cells #[.int .i64 0, .int .i64 0, .string ⟨#[]⟩] 25)).alloc (.cells #[.int .i64 1, .int .i64 (-m), .string ⟨#[]⟩] 25)).heap[w.heap.size]? = some (.cells #[.int .i64 0, .int .i64 0, .string ⟨#[]⟩] 25 (0, 0))) by
      exact box_old (box_new w _ _ _ _) (by simp) _)
    have HV0 := hide (show (((w.alloc (.cells #[.int .i64 0, .int .i64 0, .string ⟨#[]⟩] 25)).alloc (.cells #[.int .i64 1, .int .i64 (-m), .string ⟨#[]⟩] 25)).heap[w.heap.size + 1]? = some (.cells #[.int .i64 1, .int .i64 (-m), .string ⟨#[]⟩] 25 (0, 0))) by
      have := box_new (w.alloc (.cells #[.int .i64 0, .int .i64 0, .string ⟨#[]⟩] 25)) (.int .i64 1) (.int .i64 (-m)) (.string ⟨#[]⟩) 25
      rw [World.size_alloc] at this
      exact this)
    have hB0 : Below w.heap.size w ((w.alloc (.cells #[.int .i64 0, .int .i64 0, .string ⟨#[]⟩] 25)).alloc (.cells #[.int .i64 1, .int .i64 (-m), .string ⟨#[]⟩] 25)) := (below_al2 w _).alloc (by simp) _
    have hz0 : w.heap.size + 2 ≤ ((w.alloc (.cells #[.int .i64 0, .int .i64 0, .string ⟨#[]⟩] 25)).alloc (.cells #[.int .i64 1, .int .i64 (-m), .string ⟨#[]⟩] 25)).heap.size := by simp
    generalize (w.alloc (.cells #[.int .i64 0, .int .i64 0, .string ⟨#[]⟩] 25)).alloc (.cells #[.int .i64 1, .int .i64 (-m), .string ⟨#[]⟩] 25) = w0 at HR0 HV0 hB0 hz0 ⊢
    refine (specValOk_any 1 (-m) ⟨#[]⟩ _ (by unfold maxLen; decide)).mono ?_
    rintro e w1 ⟨rfl, g1⟩
    have hb := below_none g1
    have HR := hide (box_below (q := w.heap.size) HR0.out hb (by omega))
    have HV := hide (box_below (q := w.heap.size + 1) HV0.out hb (by omega))
    have hB : Below w.heap.size w w1 := hB0.trans (hb.mono hB0.size)
    clear hb g1 HR0 HV0 hB0
    obtain ⟨c0, c1, c2, f0, f1, f2⟩ := box_cell HR.out
    obtain ⟨d0, d1, d2, -, -, -⟩ := box_cell HV.out
    cases hv : valB 1 (-m) ⟨#[]⟩
    · rw [hv] at HN
      clear hv
      go_wp2
      refine box_post HR.out (fun w4 h4 gr => ?_)
      clear c0 c1 c2 f0 f1 f2 d0 d1 d2
      obtain ⟨c0, c1, c2, -, -, -⟩ := box_cell h4
      exact bodyPost_ret (v := .tuple #[.agg #[.int .i64 0, .int .i64 0, .string ⟨#[]⟩], .bool false]) (by simp [results, Tryd.results14, go_sem, c0, c1, c2]) rfl ⟨by rw [← HN.out]; rfl, below_set hB gr (by omega)⟩
    · rw [hv] at HN
      clear hv
      go_wp2
      refine box_post HR.out (fun w4 h4 gr => ?_)
      clear c0 c1 c2 f0 f1 f2 d0 d1 d2
      obtain ⟨c0, c1, c2, -, -, -⟩ := box_cell h4
      exact bodyPost_ret (v := .tuple #[.agg #[.int .i64 1, .int .i64 (-m), .string ⟨#[]⟩], .bool true]) (by simp [results, Tryd.results14, go_sem, c0, c1, c2]) rfl ⟨by rw [← HN.out]; rfl, below_set hB gr (by omega)⟩

set_option maxRecDepth 100000 in
set_option maxHeartbeats 1600000 in
theorem specParse_short (s : ByteArray) (w : World) (hs : s.size ≤ 1048576) (h1 : ¬ (1 : Int) < s.size) (hnum : ∀ m, wholeL s.data.toList = m → numV s.data.toList = if m < 0 then none else if numOk m then some m else none) :
    Calls Tryd.prog 14 #[.string s] w fun e w' => e = .returned (ansN (numV s.data.toList)) ∧ Below w.heap.size w w' := by
  have HNum := hide hnum
  clear hnum
  go_enter Tryd.func14, Tryd.ntmps14
  go_wp2_with fail
  have hsz : (s).size ≤ maxLen := by unfold maxLen; first | omega | (rw [ByteArray.size_extract]; omega)
  refine (l2Whole_any (s) _ hsz).mono ?_
  rintro e w' ⟨rfl, rfl⟩
  have hbd := wholeL_bd (s).data.toList
  generalize hm : wholeL (s).data.toList = m at hbd ⊢
  have HN0 := hide (HNum.out m hm)
  clear HNum hm hsz
  obtain ⟨hl, hu⟩ := hbd
  by_cases hneg : m < 0
  · have HN : Hid (numV s.data.toList = none) := HN0.out.trans (if_pos hneg)
    clear HN0
    go_wp2
    go_returns
    exact ⟨by rw [HN.out]; rfl, by go_grown⟩
  · have HN := hide (ansN_of (HN0.out.trans (if_neg hneg)))
    clear HN0
    go_wp2_with fail
    have HR0 := hide (show (((w.alloc (.cells #[.int .i64 0, .int .i64 0, .string ⟨#[]⟩] 25)).alloc (.cells #[.int .i64 1, .int .i64 (m), .string ⟨#[]⟩] 25)).heap[w.heap.size]? = some (.cells #[.int .i64 0, .int .i64 0, .string ⟨#[]⟩] 25 (0, 0))) by
      exact box_old (box_new w _ _ _ _) (by simp) _)
    have HV0 := hide (show (((w.alloc (.cells #[.int .i64 0, .int .i64 0, .string ⟨#[]⟩] 25)).alloc (.cells #[.int .i64 1, .int .i64 (m), .string ⟨#[]⟩] 25)).heap[w.heap.size + 1]? = some (.cells #[.int .i64 1, .int .i64 (m), .string ⟨#[]⟩] 25 (0, 0))) by
      have := box_new (w.alloc (.cells #[.int .i64 0, .int .i64 0, .string ⟨#[]⟩] 25)) (.int .i64 1) (.int .i64 (m)) (.string ⟨#[]⟩) 25
      rw [World.size_alloc] at this
      exact this)
    have hB0 : Below w.heap.size w ((w.alloc (.cells #[.int .i64 0, .int .i64 0, .string ⟨#[]⟩] 25)).alloc (.cells #[.int .i64 1, .int .i64 (m), .string ⟨#[]⟩] 25)) := (below_al2 w _).alloc (by simp) _
    have hz0 : w.heap.size + 2 ≤ ((w.alloc (.cells #[.int .i64 0, .int .i64 0, .string ⟨#[]⟩] 25)).alloc (.cells #[.int .i64 1, .int .i64 (m), .string ⟨#[]⟩] 25)).heap.size := by simp
    generalize (w.alloc (.cells #[.int .i64 0, .int .i64 0, .string ⟨#[]⟩] 25)).alloc (.cells #[.int .i64 1, .int .i64 (m), .string ⟨#[]⟩] 25) = w0 at HR0 HV0 hB0 hz0 ⊢
    refine (specValOk_any 1 (m) ⟨#[]⟩ _ (by unfold maxLen; decide)).mono ?_
    rintro e w1 ⟨rfl, g1⟩
    have hb := below_none g1
    have HR := hide (box_below (q := w.heap.size) HR0.out hb (by omega))
    have HV := hide (box_below (q := w.heap.size + 1) HV0.out hb (by omega))
    have hB : Below w.heap.size w w1 := hB0.trans (hb.mono hB0.size)
    clear hb g1 HR0 HV0 hB0
    obtain ⟨c0, c1, c2, f0, f1, f2⟩ := box_cell HR.out
    obtain ⟨d0, d1, d2, -, -, -⟩ := box_cell HV.out
    cases hv : valB 1 (m) ⟨#[]⟩
    · rw [hv] at HN
      clear hv
      go_wp2
      refine box_post HR.out (fun w4 h4 gr => ?_)
      clear c0 c1 c2 f0 f1 f2 d0 d1 d2
      obtain ⟨c0, c1, c2, -, -, -⟩ := box_cell h4
      exact bodyPost_ret (v := .tuple #[.agg #[.int .i64 0, .int .i64 0, .string ⟨#[]⟩], .bool false]) (by simp [results, Tryd.results14, go_sem, c0, c1, c2]) rfl ⟨by rw [← HN.out]; rfl, below_set hB gr (by omega)⟩
    · rw [hv] at HN
      clear hv
      go_wp2
      refine box_post HR.out (fun w4 h4 gr => ?_)
      clear c0 c1 c2 f0 f1 f2 d0 d1 d2
      obtain ⟨c0, c1, c2, -, -, -⟩ := box_cell h4
      exact bodyPost_ret (v := .tuple #[.agg #[.int .i64 1, .int .i64 (m), .string ⟨#[]⟩], .bool true]) (by simp [results, Tryd.results14, go_sem, c0, c1, c2]) rfl ⟨by rw [← HN.out]; rfl, below_set hB gr (by omega)⟩

set_option maxRecDepth 100000 in
set_option maxHeartbeats 1600000 in
theorem specParse_half (s : ByteArray) (w : World) (hs : s.size ≤ 1048576) (h1 : (1 : Int) < s.size) (h0 : (((s[0]'(by omega)).toNat : Int) == 39) = true) (h2 : (((s[s.size - 1]'(by omega)).toNat : Int) == 39) = false) (h3 : (((s[0]'(by omega)).toNat : Int) == 45) = false) (hnum : ∀ m, wholeL s.data.toList = m → numV s.data.toList = if m < 0 then none else if numOk m then some m else none) :
    Calls Tryd.prog 14 #[.string s] w fun e w' => e = .returned (ansN (numV s.data.toList)) ∧ Below w.heap.size w w' := by
  have HNum := hide hnum
  clear hnum
  go_enter Tryd.func14, Tryd.ntmps14
  go_wp2_with fail
  have hsz : (s).size ≤ maxLen := by unfold maxLen; first | omega | (rw [ByteArray.size_extract]; omega)
  refine (l2Whole_any (s) _ hsz).mono ?_
  rintro e w' ⟨rfl, rfl⟩
  have hbd := wholeL_bd (s).data.toList
  generalize hm : wholeL (s).data.toList = m at hbd ⊢
  have HN0 := hide (HNum.out m hm)
  clear HNum hm hsz
  obtain ⟨hl, hu⟩ := hbd
  by_cases hneg : m < 0
  · have HN : Hid (numV s.data.toList = none) := HN0.out.trans (if_pos hneg)
    clear HN0
    go_wp2
    go_returns
    exact ⟨by rw [HN.out]; rfl, by go_grown⟩
  · have HN := hide (ansN_of (HN0.out.trans (if_neg hneg)))
    clear HN0
    go_wp2_with fail
    have HR0 := hide (show (((w.alloc (.cells #[.int .i64 0, .int .i64 0, .string ⟨#[]⟩] 25)).alloc (.cells #[.int .i64 1, .int .i64 (m), .string ⟨#[]⟩] 25)).heap[w.heap.size]? = some (.cells #[.int .i64 0, .int .i64 0, .string ⟨#[]⟩] 25 (0, 0))) by
      exact box_old (box_new w _ _ _ _) (by simp) _)
    have HV0 := hide (show (((w.alloc (.cells #[.int .i64 0, .int .i64 0, .string ⟨#[]⟩] 25)).alloc (.cells #[.int .i64 1, .int .i64 (m), .string ⟨#[]⟩] 25)).heap[w.heap.size + 1]? = some (.cells #[.int .i64 1, .int .i64 (m), .string ⟨#[]⟩] 25 (0, 0))) by
      have := box_new (w.alloc (.cells #[.int .i64 0, .int .i64 0, .string ⟨#[]⟩] 25)) (.int .i64 1) (.int .i64 (m)) (.string ⟨#[]⟩) 25
      rw [World.size_alloc] at this
      exact this)
    have hB0 : Below w.heap.size w ((w.alloc (.cells #[.int .i64 0, .int .i64 0, .string ⟨#[]⟩] 25)).alloc (.cells #[.int .i64 1, .int .i64 (m), .string ⟨#[]⟩] 25)) := (below_al2 w _).alloc (by simp) _
    have hz0 : w.heap.size + 2 ≤ ((w.alloc (.cells #[.int .i64 0, .int .i64 0, .string ⟨#[]⟩] 25)).alloc (.cells #[.int .i64 1, .int .i64 (m), .string ⟨#[]⟩] 25)).heap.size := by simp
    generalize (w.alloc (.cells #[.int .i64 0, .int .i64 0, .string ⟨#[]⟩] 25)).alloc (.cells #[.int .i64 1, .int .i64 (m), .string ⟨#[]⟩] 25) = w0 at HR0 HV0 hB0 hz0 ⊢
    refine (specValOk_any 1 (m) ⟨#[]⟩ _ (by unfold maxLen; decide)).mono ?_
    rintro e w1 ⟨rfl, g1⟩
    have hb := below_none g1
    have HR := hide (box_below (q := w.heap.size) HR0.out hb (by omega))
    have HV := hide (box_below (q := w.heap.size + 1) HV0.out hb (by omega))
    have hB : Below w.heap.size w w1 := hB0.trans (hb.mono hB0.size)
    clear hb g1 HR0 HV0 hB0
    obtain ⟨c0, c1, c2, f0, f1, f2⟩ := box_cell HR.out
    obtain ⟨d0, d1, d2, -, -, -⟩ := box_cell HV.out
    cases hv : valB 1 (m) ⟨#[]⟩
    · rw [hv] at HN
      clear hv
      go_wp2
      refine box_post HR.out (fun w4 h4 gr => ?_)
      clear c0 c1 c2 f0 f1 f2 d0 d1 d2
      obtain ⟨c0, c1, c2, -, -, -⟩ := box_cell h4
      exact bodyPost_ret (v := .tuple #[.agg #[.int .i64 0, .int .i64 0, .string ⟨#[]⟩], .bool false]) (by simp [results, Tryd.results14, go_sem, c0, c1, c2]) rfl ⟨by rw [← HN.out]; rfl, below_set hB gr (by omega)⟩
    · rw [hv] at HN
      clear hv
      go_wp2
      refine box_post HR.out (fun w4 h4 gr => ?_)
      clear c0 c1 c2 f0 f1 f2 d0 d1 d2
      obtain ⟨c0, c1, c2, -, -, -⟩ := box_cell h4
      exact bodyPost_ret (v := .tuple #[.agg #[.int .i64 1, .int .i64 (m), .string ⟨#[]⟩], .bool true]) (by simp [results, Tryd.results14, go_sem, c0, c1, c2]) rfl ⟨by rw [← HN.out]; rfl, below_set hB gr (by omega)⟩

set_option maxRecDepth 100000 in
set_option maxHeartbeats 1600000 in
theorem specParse_plain (s : ByteArray) (w : World) (hs : s.size ≤ 1048576) (h1 : (1 : Int) < s.size) (h0 : (((s[0]'(by omega)).toNat : Int) == 39) = false) (h3 : (((s[0]'(by omega)).toNat : Int) == 45) = false) (hnum : ∀ m, wholeL s.data.toList = m → numV s.data.toList = if m < 0 then none else if numOk m then some m else none) :
    Calls Tryd.prog 14 #[.string s] w fun e w' => e = .returned (ansN (numV s.data.toList)) ∧ Below w.heap.size w w' := by
  have HNum := hide hnum
  clear hnum
  go_enter Tryd.func14, Tryd.ntmps14
  go_wp2_with fail
  have hsz : (s).size ≤ maxLen := by unfold maxLen; first | omega | (rw [ByteArray.size_extract]; omega)
  refine (l2Whole_any (s) _ hsz).mono ?_
  rintro e w' ⟨rfl, rfl⟩
  have hbd := wholeL_bd (s).data.toList
  generalize hm : wholeL (s).data.toList = m at hbd ⊢
  have HN0 := hide (HNum.out m hm)
  clear HNum hm hsz
  obtain ⟨hl, hu⟩ := hbd
  by_cases hneg : m < 0
  · have HN : Hid (numV s.data.toList = none) := HN0.out.trans (if_pos hneg)
    clear HN0
    go_wp2
    go_returns
    exact ⟨by rw [HN.out]; rfl, by go_grown⟩
  · have HN := hide (ansN_of (HN0.out.trans (if_neg hneg)))
    clear HN0
    go_wp2_with fail
    have HR0 := hide (show (((w.alloc (.cells #[.int .i64 0, .int .i64 0, .string ⟨#[]⟩] 25)).alloc (.cells #[.int .i64 1, .int .i64 (m), .string ⟨#[]⟩] 25)).heap[w.heap.size]? = some (.cells #[.int .i64 0, .int .i64 0, .string ⟨#[]⟩] 25 (0, 0))) by
      exact box_old (box_new w _ _ _ _) (by simp) _)
    have HV0 := hide (show (((w.alloc (.cells #[.int .i64 0, .int .i64 0, .string ⟨#[]⟩] 25)).alloc (.cells #[.int .i64 1, .int .i64 (m), .string ⟨#[]⟩] 25)).heap[w.heap.size + 1]? = some (.cells #[.int .i64 1, .int .i64 (m), .string ⟨#[]⟩] 25 (0, 0))) by
      have := box_new (w.alloc (.cells #[.int .i64 0, .int .i64 0, .string ⟨#[]⟩] 25)) (.int .i64 1) (.int .i64 (m)) (.string ⟨#[]⟩) 25
      rw [World.size_alloc] at this
      exact this)
    have hB0 : Below w.heap.size w ((w.alloc (.cells #[.int .i64 0, .int .i64 0, .string ⟨#[]⟩] 25)).alloc (.cells #[.int .i64 1, .int .i64 (m), .string ⟨#[]⟩] 25)) := (below_al2 w _).alloc (by simp) _
    have hz0 : w.heap.size + 2 ≤ ((w.alloc (.cells #[.int .i64 0, .int .i64 0, .string ⟨#[]⟩] 25)).alloc (.cells #[.int .i64 1, .int .i64 (m), .string ⟨#[]⟩] 25)).heap.size := by simp
    generalize (w.alloc (.cells #[.int .i64 0, .int .i64 0, .string ⟨#[]⟩] 25)).alloc (.cells #[.int .i64 1, .int .i64 (m), .string ⟨#[]⟩] 25) = w0 at HR0 HV0 hB0 hz0 ⊢
    refine (specValOk_any 1 (m) ⟨#[]⟩ _ (by unfold maxLen; decide)).mono ?_
    rintro e w1 ⟨rfl, g1⟩
    have hb := below_none g1
    have HR := hide (box_below (q := w.heap.size) HR0.out hb (by omega))
    have HV := hide (box_below (q := w.heap.size + 1) HV0.out hb (by omega))
    have hB : Below w.heap.size w w1 := hB0.trans (hb.mono hB0.size)
    clear hb g1 HR0 HV0 hB0
    obtain ⟨c0, c1, c2, f0, f1, f2⟩ := box_cell HR.out
    obtain ⟨d0, d1, d2, -, -, -⟩ := box_cell HV.out
    cases hv : valB 1 (m) ⟨#[]⟩
    · rw [hv] at HN
      clear hv
      go_wp2
      refine box_post HR.out (fun w4 h4 gr => ?_)
      clear c0 c1 c2 f0 f1 f2 d0 d1 d2
      obtain ⟨c0, c1, c2, -, -, -⟩ := box_cell h4
      exact bodyPost_ret (v := .tuple #[.agg #[.int .i64 0, .int .i64 0, .string ⟨#[]⟩], .bool false]) (by simp [results, Tryd.results14, go_sem, c0, c1, c2]) rfl ⟨by rw [← HN.out]; rfl, below_set hB gr (by omega)⟩
    · rw [hv] at HN
      clear hv
      go_wp2
      refine box_post HR.out (fun w4 h4 gr => ?_)
      clear c0 c1 c2 f0 f1 f2 d0 d1 d2
      obtain ⟨c0, c1, c2, -, -, -⟩ := box_cell h4
      exact bodyPost_ret (v := .tuple #[.agg #[.int .i64 1, .int .i64 (m), .string ⟨#[]⟩], .bool true]) (by simp [results, Tryd.results14, go_sem, c0, c1, c2]) rfl ⟨by rw [← HN.out]; rfl, below_set hB gr (by omega)⟩
end Go.Proofs.YtofdbnkeddcdjaaDoor
/-
  What ParseVal answers, the tested one and the model's alike: parseO.
-/
namespace Go.Proofs.YtofdbnkeddcdjaaDoor
open Go.RowKit Go.Lib
set_option linter.unusedVariables false

def quotedB (s : ByteArray) : Bool := decide (2 ≤ s.size) && (bat s 0 == 39) && (bat s (s.size - 1) == 39)
/-- the value that a text is read as -/
def parseO (s : ByteArray) : Option V3 :=
  if quotedB s then (if valB 2 0 (s.extract 1 (s.size - 1)) then some ⟨2, 0, s.extract 1 (s.size - 1)⟩ else none)
  else (numV s.data.toList).map fun n => ⟨1, n, ⟨#[]⟩⟩
/-- the answer, as the call gives it -/
def ansO : Option V3 → Value
  | some v => .tuple #[.agg #[.int .i64 v.K, .int .i64 v.N, .string v.S], .bool true]
  | none => .tuple #[.agg #[.int .i64 0, .int .i64 0, .string ⟨#[]⟩], .bool false]
theorem ansV_f (K N : Int) (S : ByteArray) : ansV false K N S = ansO none := rfl
theorem ansV_t (K N : Int) (S : ByteArray) : ansV true K N S = ansO (some ⟨K, N, S⟩) := rfl
theorem parseO_q {s : ByteArray} (h : quotedB s = true) : ansO (parseO s) = ansV (valB 2 0 (s.extract 1 (s.size - 1))) 2 0 (s.extract 1 (s.size - 1)) := by
  unfold parseO; rw [if_pos h]
  cases valB 2 0 (s.extract 1 (s.size - 1)) <;> rfl
theorem parseO_n {s : ByteArray} (h : quotedB s = false) : ansO (parseO s) = ansN (numV s.data.toList) := by
  unfold parseO; rw [if_neg (by simp [h])]
  cases numV s.data.toList <;> rfl
theorem quotedB_iff {s : ByteArray} : quotedB s = true ↔ 2 ≤ s.size ∧ bat s 0 = 39 ∧ bat s (s.size - 1) = 39 := by
  simp [quotedB, and_assoc]

theorem specParse_any (s : ByteArray) (w : World) (hs : s.size ≤ 1048576) :
    Calls Tryd.prog 14 #[.string s] w fun e w' => e = .returned (ansO (parseO s)) ∧ Below w.heap.size w w' := by
  have hl : s.data.toList.length = s.size := by rw [Array.length_toList]; rfl
  by_cases h1 : 2 ≤ s.size
  · by_cases h0 : bat s 0 = 39
    · by_cases h2 : bat s (s.size - 1) = 39
      · rw [parseO_q (quotedB_iff.2 ⟨h1, h0, h2⟩)]
        rw [bat_in (by omega)] at h0 h2
        exact specParse_quote s w hs (by omega) (by simpa using h0) (by simpa using h2)
      · rw [parseO_n (Bool.eq_false_iff.2 (fun h => h2 (quotedB_iff.1 h).2.2))]
        rw [bat_in (by omega)] at h0 h2
        have hh : ¬ (1 < s.data.toList.length ∧ s.data.toList.head? = some 45) := by
          rintro ⟨_, h⟩
          rw [head_of (by omega), Option.some.injEq] at h
          rw [h] at h0; exact absurd h0 (by decide)
        exact specParse_half s w hs (by omega) (by simpa using h0) (by simpa using h2) (by simp; omega) (fun m hm => numV_plain hh hm)
    · rw [parseO_n (Bool.eq_false_iff.2 (fun h => h0 (quotedB_iff.1 h).2.1))]
      rw [bat_in (by omega)] at h0
      by_cases h3 : (s[0]'(by omega)) = 45
      · refine specParse_minus s w hs (by omega) (by simpa using h0) (by rw [h3]; rfl) (fun m hm => numV_minus (by omega) (by rw [head_of (by omega), h3]) (by rw [← tail_of]; exact hm))
      · have hh : ¬ (1 < s.data.toList.length ∧ s.data.toList.head? = some 45) := by
          rintro ⟨_, h⟩
          rw [head_of (by omega), Option.some.injEq] at h
          exact h3 h
        have h4 : ¬ (((s[0]'(by omega)).toNat : Int) = 45) := fun e => h3 (UInt8.toNat_inj.1 (by have : (45 : UInt8).toNat = 45 := rfl; omega))
        exact specParse_plain s w hs (by omega) (by simpa using h0) (by simpa using h4) (fun m hm => numV_plain hh hm)
  · rw [parseO_n (Bool.eq_false_iff.2 (fun h => h1 (quotedB_iff.1 h).1))]
    exact specParse_short s w hs (by omega) (fun m hm => numV_plain (by omega) hm)

theorem inner_of {s : ByteArray} (h1 : 2 ≤ s.size) (h0 : bat s 0 = 39) (h2 : bat s (s.size - 1) = 39) : (⟨#[39]⟩ ++ s.extract 1 (s.size - 1) ++ ⟨#[39]⟩ : ByteArray) = s := by
  have e : (s.extract 1 (s.size - 1)).size = s.size - 2 := by rw [ByteArray.size_extract]; omega
  have e1 : (⟨#[39]⟩ : ByteArray).size = 1 := rfl
  apply ByteArray.ext_getElem
  · simp only [ByteArray.size_append, e, e1]; omega
  · intro i hi hi'
    rw [bat_in (by omega)] at h0 h2
    have x0 : (s[0]'(by omega)) = 39 := UInt8.toNat_inj.1 (by have : (39 : UInt8).toNat = 39 := rfl; omega)
    have x2 : (s[s.size - 1]'(by omega)) = 39 := UInt8.toNat_inj.1 (by have : (39 : UInt8).toNat = 39 := rfl; omega)
    by_cases ha : i = 0
    · subst ha
      rw [ByteArray.getElem_append_left (by simp only [ByteArray.size_append, e, e1]; omega), ByteArray.getElem_append_left (by rw [e1]; omega), x0]; rfl
    · by_cases hb : i = s.size - 1
      · subst hb
        rw [ByteArray.getElem_append_right (by simp only [ByteArray.size_append, e, e1]; omega), x2]
        have : s.size - 1 - (⟨#[39]⟩ ++ s.extract 1 (s.size - 1) : ByteArray).size = 0 := by simp only [ByteArray.size_append, e, e1]; omega
        simp only [this]; rfl
      · rw [ByteArray.getElem_append_left (by simp only [ByteArray.size_append, e, e1]; omega), ByteArray.getElem_append_right (by rw [e1]; omega), ByteArray.getElem_extract]
        congr 1
        rw [e1]; omega
theorem inner_last {s S : ByteArray} (h : (⟨#[39]⟩ ++ S ++ ⟨#[39]⟩ : ByteArray) = s) : bat s (s.size - 1) = 39 := by
  subst h
  have e1 : (⟨#[39]⟩ : ByteArray).size = 1 := rfl
  rw [bat_in (by simp only [ByteArray.size_append, e1]; omega)]
  rw [ByteArray.getElem_append_right (by simp only [ByteArray.size_append, e1]; omega)]
  have : (⟨#[39]⟩ ++ S ++ ⟨#[39]⟩ : ByteArray).size - 1 - (⟨#[39]⟩ ++ S : ByteArray).size = 0 := by simp only [ByteArray.size_append, e1]; omega
  simp only [this]; rfl

theorem implParse_any (s : ByteArray) (w : World) (hs : s.size ≤ 1048576) (ht : Tab w) (he : Errs w) :
    Calls Tryd.prog 12 #[.string s] w fun e w' => e = .returned (ansO (parseO s)) ∧ Below w.heap.size w w' := by
  by_cases h1 : 2 ≤ s.size ∧ bat s 0 = 39
  · obtain ⟨h1, h0⟩ := h1
    have hsz : (s.extract 1 (s.size - 1)).size ≤ maxLen := by rw [ByteArray.size_extract]; unfold maxLen; omega
    have h0' := h0
    rw [bat_in (by omega)] at h0'
    have := implParse_of s 2 0 (s.extract 1 (s.size - 1)) w hsz ht (fun W hW => looseVal_quote s W hs h1 h0')
    by_cases h2 : bat s (s.size - 1) = 39
    · rw [parseO_q (quotedB_iff.2 ⟨h1, h0, h2⟩)]
      cases hv : valB 2 0 (s.extract 1 (s.size - 1))
      · rw [hv] at this; exact this
      · rw [hv, textV_text hv (by decide), decide_eq_true (inner_of h1 h0 h2)] at this
        exact this
    · rw [parseO_n (Bool.eq_false_iff.2 (fun h => h2 (quotedB_iff.1 h).2.2))]
      have hn : numV s.data.toList = none := by
        have hd := head_of (s := s) (by omega)
        cases hl : s.data.toList with
        | nil => rw [hl] at hd; simp at hd
        | cons c r =>
          rw [hl] at hd
          simp only [List.head?_cons, Option.some.injEq] at hd
          exact numV_head (by rw [hd]; omega)
      rw [hn]
      cases hv : valB 2 0 (s.extract 1 (s.size - 1))
      · rw [hv] at this; exact this
      · rw [hv, textV_text hv (by decide), decide_eq_false (fun e => h2 (inner_last e))] at this
        exact this
  · rw [parseO_n (Bool.eq_false_iff.2 (fun h => h1 ⟨(quotedB_iff.1 h).1, (quotedB_iff.1 h).2.1⟩))]
    have h2 : s.size < 2 ∨ bat s 0 ≠ 39 := by
      by_cases h : s.size < 2
      · exact .inl h
      · exact .inr (fun e => h1 ⟨by omega, e⟩)
    have hz : (ByteArray.mk #[]).size ≤ maxLen := by unfold maxLen; decide
    by_cases hn : ∃ n, atoiAll s.data.toList = .ok n
    · obtain ⟨n, hn⟩ := hn
      have := implParse_of s 1 n ⟨#[]⟩ w hz ht (fun W hW => looseVal_ok s W n hs h2 hn)
      have hk := loose_ok hn
      cases hv : numV s.data.toList with
      | none =>
        have : (valB 1 n ⟨#[]⟩ && decide (textV 1 n ⟨#[]⟩ = s)) = false := by
          rw [Bool.eq_false_iff]; intro h
          rw [Bool.and_eq_true, decide_eq_true_iff] at h
          rw [hk.1 h] at hv; cases hv
        rename_i h'
        rw [this] at h'; exact h'
      | some m =>
        obtain rfl := loose_only hn hv
        have h3 := hk.2 hv
        rw [h3.1, decide_eq_true h3.2] at this
        exact this
    · have hn' : ∀ n, atoiAll s.data.toList ≠ .ok n := fun n h => hn ⟨n, h⟩
      have := implParse_of s 0 0 ⟨#[]⟩ w hz ht (fun W hW => looseVal_no s W hs h2 (he.later hW (Nat.le_refl _)) hn')
      rw [loose_none hn']
      rw [valB_zero] at this
      exact this
end Go.Proofs.YtofdbnkeddcdjaaDoor
/-
  Values come back of their bytes and of their texts, plainly.
-/
namespace Go.Proofs.YtofdbnkeddcdjaaDoor
open Go.RowKit Go.Lib
set_option linter.unusedVariables false

theorem clamp_id {n : Int} (h : -1000000000 ≤ n ∧ n ≤ 1000000000) : clampN n = n := by unfold clampN; rw [if_neg (by omega), if_neg (by omega)]
theorem valB_one {N : Int} {S : ByteArray} (h : valB 1 N S = true) : (-1000000000 ≤ N ∧ N ≤ 1000000000) ∧ S = ⟨#[]⟩ := by
  by_cases hN : -1000000000 ≤ N ∧ N ≤ 1000000000
  · rw [valB_num S hN, decide_eq_true_iff] at h
    exact ⟨hN, empty_of_size h⟩
  · rw [valB_out S hN] at h; cases h
theorem valB_two {K N : Int} {S : ByteArray} (h : valB K N S = true) (hk : K ≠ 1) : K = 2 ∧ N = 0 ∧ S.size ≤ 20 := by
  by_cases h2 : K = 2
  · subst h2
    rw [valB_text, Bool.and_eq_true] at h
    exact ⟨rfl, by simpa using h.2, textB_le h.1⟩
  · rw [valB_none N S hk h2] at h; cases h

/-- a value that was put comes back, whatever stands ahead -/
theorem val_back (bs : List UInt8) (K N : Int) (S : ByteArray) (h : valB K N S = true) :
    valR (bs ++ encV K N S) (bs.length : Int) = (K, N, S, ((bs ++ encV K N S).length : Int), true) := by
  by_cases hk : K = 1
  · subst hk
    obtain ⟨hN, rfl⟩ := valB_one h
    rw [encV_num]
    have h1 := num_back bs (encN N) 1
    rw [clamp_id (by omega), List.append_assoc] at h1
    have h2 := num_back (bs ++ encN 1) [] N
    rw [clamp_id hN, List.append_nil, List.append_assoc] at h2
    rw [valR_num h1 h2, h]
    rfl
  · obtain ⟨rfl, rfl, hS⟩ := valB_two h hk
    rw [encV_text _ _ (by decide)]
    have h1 := num_back bs (encT S) 2
    rw [clamp_id (by omega), List.append_assoc] at h1
    have h2 := encT_back (bs ++ encN 2) S (by omega)
    rw [show (bs ++ encN 2 ++ (encN S.size ++ S.data.toList)) = bs ++ (encN 2 ++ encT S) by rw [List.append_assoc]; rfl] at h2
    rw [valR_text h1 (by decide) h2, h]
    rfl

theorem parse_back (K N : Int) (S : ByteArray) (h : valB K N S = true) : parseO (textV K N S) = some ⟨K, N, S⟩ := by
  by_cases hk : K = 1
  · subst hk
    obtain ⟨hN, rfl⟩ := valB_one h
    have hn := numV_itoa (n := N) (numOk_iff.2 hN)
    rw [textV_num h]
    have hq : quotedB ⟨(itoa N).toArray⟩ = false := by
      rw [Bool.eq_false_iff]
      intro hq
      obtain ⟨h1, h0, -⟩ := quotedB_iff.1 hq
      cases hl : itoa N with
      | nil => rw [hl] at h1; exact absurd h1 (by decide)
      | cons c r =>
        rw [hl] at hn h0
        rw [bat_in (by show 0 < (c :: r).toArray.size; simp)] at h0
        have hc : c.toNat = 39 := by
          have : ((ByteArray.mk (c :: r).toArray)[0]'(by show 0 < (c :: r).toArray.size; simp)) = c := by simp [ByteArray.getElem_eq_getElem_data]
          rw [this] at h0; omega
        rw [numV_head hc] at hn; cases hn
    unfold parseO
    rw [if_neg (by simp [hq])]
    show (numV ((itoa N).toArray).toList).map _ = _
    rw [List.toList_toArray, hn]; rfl
  · obtain ⟨rfl, rfl, hS⟩ := valB_two h hk
    rw [textV_text h hk]
    have e1 : (⟨#[39]⟩ : ByteArray).size = 1 := rfl
    have hsz : (⟨#[39]⟩ ++ S ++ ⟨#[39]⟩ : ByteArray).size = S.size + 2 := by simp only [ByteArray.size_append, e1]; omega
    have hq : quotedB (⟨#[39]⟩ ++ S ++ ⟨#[39]⟩) = true := by
      refine quotedB_iff.2 ⟨by omega, ?_, inner_last rfl⟩
      rw [bat_in (by omega), ByteArray.getElem_append_left (by simp only [ByteArray.size_append, e1]; omega), ByteArray.getElem_append_left (by rw [e1]; omega)]; rfl
    have hi : (⟨#[39]⟩ ++ S ++ ⟨#[39]⟩ : ByteArray).extract 1 ((⟨#[39]⟩ ++ S ++ ⟨#[39]⟩ : ByteArray).size - 1) = S := by
      apply ByteArray.ext_getElem
      · rw [ByteArray.size_extract, hsz]; omega
      · intro i hi hi'
        rw [ByteArray.getElem_extract, ByteArray.getElem_append_left (by simp only [ByteArray.size_append, e1]; omega), ByteArray.getElem_append_right (by rw [e1]; omega)]
        congr 1
        rw [e1]; omega
    unfold parseO
    rw [if_pos hq, hi, h]; rfl
theorem textV_size {K N : Int} {S : ByteArray} (h : valB K N S = true) : (textV K N S).size ≤ 22 := by
  by_cases hk : K = 1
  · subst hk
    obtain ⟨hN, rfl⟩ := valB_one h
    rw [textV_num h]
    show (itoa N).toArray.size ≤ 22
    simp only [List.size_toArray]
    by_cases hn : N < 0
    · rw [itoa_neg hn]; have := nDigits_10 N.natAbs (by omega); simp only [List.length_cons]; rw [decDigits_length]; omega
    · rw [itoa_pos hn]; have := nDigits_10 N.toNat (by omega); rw [decDigits_length]; omega
  · obtain ⟨rfl, rfl, hS⟩ := valB_two h hk
    rw [textV_text h hk]
    have e1 : (⟨#[39]⟩ : ByteArray).size = 1 := rfl
    simp only [ByteArray.size_append, e1]; omega
end Go.Proofs.YtofdbnkeddcdjaaDoor
/-
  What the writers of numbers make: a row of the call's own that holds the bytes, and behind them encN of the number; nothing that was there has turned.
-/
namespace Go.Proofs.YtofdbnkeddcdjaaDoor
open Go.RowKit
set_option linter.unusedVariables false

set_option maxRecDepth 100000 in
set_option maxHeartbeats 1600000 in
theorem specPutNum_some (p : Addr) (cap : Nat) (n : Int) (bs : List UInt8) (w : World) (hr : Rd w (some p) bs) (hn : bs.length ≤ 33554400) :
    Calls Tryd.prog 51 #[.slice (some p) bs.length cap, .int .i64 n] w fun e w' =>
      ∃ v, e = .returned v ∧ w'.ownsRow w.heap.size 5 1 v (bs ++ encN n).length (vals (bs ++ encN n)) ∧ Below w.heap.size w w' := by
  obtain ⟨i0, hi, hz0, hz1, hz2⟩ := info_parts Tryd.info5
  have HE : Hid (encN n = encG 5 (foldN (clampN n))) := rfl
  have HF := hide (foldN_le (clampN_in n))
  rcases fold_cases n with ⟨h1, h2⟩ | ⟨h1, h2⟩ | ⟨⟨h0, h1⟩, h2⟩ | ⟨⟨h0, h1⟩, h2⟩
  all_goals
    have HC := hide h2
    clear h2
    go_enter Tryd.func51, Tryd.ntmps51
    go_wp2_with (at_builtin; refine wpList_append_own _ rfl (.tmp 7) (.tmp 8) 22 rfl w.heap.size 5 i0 (.int .u8 0) 1 1 Tryd.underlying22 hi hz0 hz1 hz2 rfl (by decide) _ 0 [] rfl (World.ownsRow_made w #[] 0 (Nat.le_refl _) (Nat.zero_le _) rfl) p bs.length cap (vals bs) rfl (by rw [vals_length]; omega) (fun j u hj => rd_cells (hr.below ((Below.refl _ _).alloc (Nat.le_refl _) _)) j u hj) (vals_one bs) (by unfold maxLen; omega) (by omega) (by simp) ?_)
    intro v1 w1 hown1 hgrow1 _
    have hb1 : Below w.heap.size w w1 := ((Below.refl _ _).alloc (Nat.le_refl _) _).grown hgrow1 (by simp) (fun k hk => by simp [Value.ownBlock] at hk; omega)
    clear hgrow1
    go_wp2
    go_loopw [5, 6] (fun out mm wr => ∃ (m f : Nat) (pre : List UInt8), mm = .int .i64 m ∧ m < 128 ^ f ∧ m ≤ 2000000000 ∧ pre ++ encG f m = encN n ∧ wr.ownsRow w.heap.size 5 1 out (bs.length + pre.length) (vals (bs ++ pre)) ∧ Below w.heap.size w wr)
      (fun _ mm _ => (intOf mm).toNat)
    case atStart =>
      refine ⟨foldN (clampN n), 5, [], ?_, Nat.lt_of_le_of_lt HF.out (by decide), HF.out, HE.out.symm, by simpa using hown1, hb1⟩
      rw [HC.out]
    case round =>
      obtain ⟨m, f, pre, rfl, hm, hm2, hp, hown, hbel⟩ := hrel
      have HM := hide hm
      have HP := hide hp
      have hpl := pre_length hp
      clear hm hp
      by_cases hlt : m < 128
      · have HZ : Hid (vals (bs ++ pre) ++ [Value.int .u8 (m : Int)] = vals (bs ++ encN n) ∧ bs.length + pre.length + 1 = (bs ++ encN n).length) := by
          refine ⟨?_, ?_⟩
          · rw [vals_last hlt, ← vals_append, ← HP.out, encG_small hlt, List.append_assoc]
          · rw [← HP.out, encG_small hlt]; simp; omega
        go_wp2_with (at_builtin; refine wpList_append_own _ rfl (.tmp 32) (.tmp 35) 22 rfl w.heap.size 5 i0 (.int .u8 0) 1 1 Tryd.underlying22 hi hz0 hz1 hz2 rfl (by decide) _ _ _ rfl (hown.alloc _) ⟨wr.heap.size, 0, none⟩ 1 1 [.int .u8 (m : Int)] rfl rfl (one_cell _ _ _) (by intro u hu; simp at hu; subst hu; rfl) (by unfold maxLen; omega) (by omega) (by have := hbel.size; simp; omega) ?_)
        intro v2 w2 hown2 hgrow2 _
        rw [HZ.out.1, HZ.out.2] at hown2
        have hb2 : Below w.heap.size w w2 := (hbel.alloc hbel.size _).grown hgrow2 (by have := hbel.size; simp; omega) (fun k hk => (hown.lt k hk).1)
        clear hgrow2 hown
        go_wp2
        go_ret
        exact ⟨_, rfl, hown2, hb2⟩
      · obtain ⟨g, rfl, hg1, hg2⟩ := enc_step hlt HM.out
        have HG := hide hg2
        have h127 := i64_and127 (m : Int)
        have h128 := or128 m
        clear hg2
        go_wp2_with (at_builtin; refine wpList_append_own _ rfl (.tmp 23) (.tmp 28) 22 rfl w.heap.size 5 i0 (.int .u8 0) 1 1 Tryd.underlying22 hi hz0 hz1 hz2 rfl (by decide) _ _ _ rfl (hown.alloc _) ⟨wr.heap.size, 0, none⟩ 1 1 [.int .u8 ((m : Int) % 128 + 128)] rfl rfl (one_cell _ _ _) (by intro u hu; simp at hu; subst hu; rfl) (by unfold maxLen; omega) (by omega) (by have := hbel.size; simp; omega) ?_)
        intro v2 w2 hown2 hgrow2 _
        rw [vals_cont m, ← vals_append] at hown2
        have hb2 : Below w.heap.size w w2 := (hbel.alloc hbel.size _).grown hgrow2 (by have := hbel.size; simp; omega) (fun k hk => (hown.lt k hk).1)
        clear hgrow2 hown
        go_wp2
        go_roundw
        case rel =>
          refine ⟨m / 128, g, pre ++ [UInt8.ofNat (m % 128 + 128)], by go_num, hg1, by omega, ?_, ?_, hb2⟩
          · rw [List.append_assoc, List.singleton_append, ← HG.out]; exact HP.out
          · rw [← List.append_assoc]; simpa [Nat.add_assoc] using hown2
        case measure => simp [intOf]; omega
end Go.Proofs.YtofdbnkeddcdjaaDoor
/-
  What the model's writer of texts makes: a row of the call's own that holds the bytes, and behind them the text's length and the text; nothing that was there has turned.
-/
namespace Go.Proofs.YtofdbnkeddcdjaaDoor
open Go.RowKit
set_option linter.unusedVariables false

set_option maxHeartbeats 1600000 in
theorem specPutText_some (p : Addr) (cap : Nat) (s : ByteArray) (bs : List UInt8) (w : World) (hr : Rd w (some p) bs) (hn : bs.length ≤ 33554300) (hs : s.size ≤ 1048580) :
    Calls Tryd.prog 52 #[.slice (some p) bs.length cap, .string s] w fun e w' =>
      ∃ v, e = .returned v ∧ w'.ownsRow w.heap.size 5 1 v (bs ++ encT s).length (vals (bs ++ encT s)) ∧ Below w.heap.size w w' := by
  obtain ⟨i0, hi, hz0, hz1, hz2⟩ := info_parts Tryd.info5
  have hl := encN_length s.size
  have HJ := hide (encT_join bs s)
  have HL := hide (encT_len bs s)
  go_enter Tryd.func52, Tryd.ntmps52
  go_wp2_with fail
  refine (specPutNum_some p cap _ bs w hr (by omega)).mono ?_
  rintro e w1 ⟨v1, rfl, hown1, hb1⟩
  go_wp2_with (at_builtin; refine Lib.wpList_append_own_string _ rfl (.tmp 8) (.tmp 9) 22 9 rfl w.heap.size 5 i0 Tryd.underlying22 Tryd.underlying9 hi hz0 hz1 hz2 _ _ _ rfl hown1 s rfl (by unfold maxLen; simp; omega) (by simp; omega) hb1.size ?_)
  intro v2 w2 hown2 hgrow2 _
  rw [HJ.out, HL.out] at hown2
  have hb2 : Below w.heap.size w w2 := hb1.grown hgrow2 hb1.size (fun k hk => (hown1.lt k hk).1)
  clear hgrow2 hown1
  go_wp2
  go_ret
  exact ⟨_, rfl, hown2, hb2⟩

end Go.Proofs.YtofdbnkeddcdjaaDoor
/-
  A row of bytes of the calls' own, by its block: what keeps it.
-/
namespace Go.Proofs.YtofdbnkeddcdjaaDoor
open Go.RowKit
set_option linter.unusedVariables false

/-- block g holds the bytes bs, at its head, and is written by nobody else -/
def Own (w : World) (g cap : Nat) (bs : List UInt8) : Prop := w.ownsRow 0 5 1 (.slice (some ⟨g, 0, none⟩) bs.length cap) bs.length (vals bs)

theorem owns_zero {w : World} {base n size : Nat} {e : TypeId} {v : Value} {xs : List Value} (h : w.ownsRow base e size v n xs) : w.ownsRow 0 e size v n xs := by
  refine ⟨h.1, ?_⟩
  rcases h.2 with h2 | ⟨g, cap, cur, h1, hb, rest⟩
  · exact .inl h2
  · exact .inr ⟨g, cap, cur, h1, Nat.zero_le _, rest⟩
theorem ownsRow_base {w : World} {base base' n size : Nat} {e : TypeId} {v : Value} {xs : List Value} (h : w.ownsRow base e size v n xs) (hb : base' ≤ base) : w.ownsRow base' e size v n xs := by
  refine ⟨h.1, ?_⟩
  rcases h.2 with h2 | ⟨g, cap, cur, h1, hb', rest⟩
  · exact .inl h2
  · exact .inr ⟨g, cap, cur, h1, by omega, rest⟩
theorem Own.lt {w : World} {g cap : Nat} {bs : List UInt8} (h : Own w g cap bs) : g < w.heap.size := (World.ownsRow.lt h g rfl).2
theorem Own.below {w w' : World} {g cap B : Nat} {bs : List UInt8} (h : Own w g cap bs) (hb : Below B w w') (hg : g < B) : Own w' g cap bs := by
  refine ⟨h.1, ?_⟩
  rcases h.2 with h2 | ⟨g', cap', cur, h1, hb', hh, rest⟩
  · exact .inl h2
  · refine .inr ⟨g', cap', cur, h1, hb', ?_, rest⟩
    simp only [Value.slice.injEq, Option.some.injEq, Addr.mk.injEq, and_true, true_and] at h1
    rw [hb.block g' (by omega)]; exact hh
theorem Own.later {w w' : World} {g cap : Nat} {bs : List UInt8} (h : Own w g cap bs) (hb : Below w.heap.size w w') : Own w' g cap bs := h.below hb h.lt
theorem Own.grown {w w' : World} {g g' cap : Nat} {bs : List UInt8} (h : Own w g cap bs) (hg : w.grownBy w' (some g')) (hne : g ≠ g') : Own w' g cap bs :=
  World.ownsRow.kept h hg (.inr (by simp [Value.ownBlock]; exact hne))
theorem Own.drewN {w : World} {g cap : Nat} {bs : List UInt8} (h : Own w g cap bs) (nd : Nat) : Own (w.drewN nd) g cap bs := h
theorem Own.rd {w : World} {g cap : Nat} {bs : List UInt8} (h : Own w g cap bs) : Rd w (some ⟨g, 0, none⟩) bs := by
  obtain ⟨a, c, e, hr, -⟩ := rd_owns h
  simp only [Value.slice.injEq] at e
  rw [e.1]; exact hr
theorem Own.cap {w : World} {g cap : Nat} {bs : List UInt8} (h : Own w g cap bs) : bs.length ≤ cap := by
  rcases h.2 with ⟨h1, _⟩ | ⟨g', cap', cur, h1, hb', hh, hnc, _⟩
  · simp at h1
  · simp only [Value.slice.injEq] at h1; omega
/-- a row that was made and is not empty has a block of its own -/
theorem owns_own {w : World} {base n : Nat} {v : Value} {bs : List UInt8} (h : w.ownsRow base 5 1 v n (vals bs)) (hp : 0 < bs.length) :
    ∃ g cap, v = .slice (some ⟨g, 0, none⟩) bs.length cap ∧ base ≤ g ∧ Own w g cap bs := by
  have hn : n = bs.length := by have := h.1; rw [vals_length] at this; omega
  subst hn
  rcases h.2 with ⟨rfl, h0⟩ | ⟨g, cap, cur, rfl, hb, rest⟩
  · omega
  · exact ⟨g, cap, rfl, hb, owns_zero h⟩
theorem below_grown {w w' : World} {B g : Nat} (h : w.grownBy w' (some g)) (hB : B ≤ w.heap.size) (hg : B ≤ g) : Below B w w' :=
  (Below.refl _ _).grown h hB (fun k hk => by cases hk; exact hg)

end Go.Proofs.YtofdbnkeddcdjaaDoor
/-
  What the model's writer of values makes: a row of the call's own that holds the bytes, and behind them encV of the value; nothing that was there has turned.
-/
namespace Go.Proofs.YtofdbnkeddcdjaaDoor
open Go.RowKit
set_option linter.unusedVariables false

set_option maxHeartbeats 1600000 in
theorem specPutVal_some (p : Addr) (cap : Nat) (K N : Int) (S : ByteArray) (bs : List UInt8) (w : World) (hr : Rd w (some p) bs) (hn : bs.length ≤ 33554000) (hs : S.size ≤ 1048580) :
    Calls Tryd.prog 35 #[.slice (some p) bs.length cap, .agg #[.int .i64 K, .int .i64 N, .string S]] w fun e w' =>
      ∃ v, e = .returned v ∧ w'.ownsRow w.heap.size 5 1 v (bs ++ encV K N S).length (vals (bs ++ encV K N S)) ∧ Below w.heap.size w w' := by
  have hl := encN_length K
  have hp := encN_pos K
  have hr1 : Rd (w.alloc (.cells #[.int .i64 K, .int .i64 N, .string S] 25)) (some p) bs := hr.below ((Below.refl _ _).alloc (Nat.le_refl _) _)
  by_cases hK : K = 1
  · subst hK
    have HE := hide (encV_num N S)
    obtain ⟨E, HE1⟩ : ∃ E, Hid (bs ++ encN 1 = E) := ⟨_, rfl⟩
    have hE : E.length ≤ bs.length + 6 := by rw [← HE1.out]; simp; omega
    have hEp : 0 < E.length := by rw [← HE1.out]; simp; omega
    have HJ : Hid (E ++ encN N = bs ++ encV 1 N S) := by unfold Hid; rw [← HE1.out, HE.out, List.append_assoc]
    clear HE hl hp
    go_enter Tryd.func35, Tryd.ntmps35
    go_wp2_with fail
    refine (specPutNum_some p cap 1 bs _ hr1 (by omega)).mono ?_
    rintro e w1 ⟨v1, rfl, ho1, hb1⟩
    rw [HE1.out] at ho1
    have HA := hide (box_below (box_new w (.int .i64 1) (.int .i64 N) (.string S) 25) hb1 (by simp))
    have hB1 : Below w.heap.size w w1 := ((Below.refl w.heap.size w).alloc (Nat.le_refl _) _).trans (hb1.mono (by simp))
    obtain ⟨g, c, rfl, hg, o1⟩ := owns_own ho1 hEp
    clear ho1 hb1
    obtain ⟨a0, a1, a2, -, -, -⟩ := box_cell HA.out
    clear HA
    go_wp2_with fail
    refine (specPutNum_some _ _ N E _ o1.rd (by omega)).mono ?_
    rintro e w2 ⟨v2, rfl, ho2, hb2⟩
    rw [HJ.out] at ho2
    have hB2 : Below w.heap.size w w2 := hB1.trans (hb2.mono hB1.size)
    have HO := hide (ownsRow_base ho2 hB1.size)
    clear hb2 o1 a0 a1 a2 ho2
    go_wp2
    go_ret
    exact ⟨_, rfl, HO.out, hB2⟩
  · have HE := hide (encV_text N S hK)
    have hk : (K == 1) = false := by simpa using hK
    clear hK
    obtain ⟨E, HE1⟩ : ∃ E, Hid (bs ++ encN K = E) := ⟨_, rfl⟩
    have hE : E.length ≤ bs.length + 6 := by rw [← HE1.out]; simp; omega
    have hEp : 0 < E.length := by rw [← HE1.out]; simp; omega
    have HJ : Hid (E ++ encT S = bs ++ encV K N S) := by unfold Hid; rw [← HE1.out, HE.out, List.append_assoc]
    clear HE hl hp
    go_enter Tryd.func35, Tryd.ntmps35
    go_wp2_with fail
    refine (specPutNum_some p cap K bs _ hr1 (by omega)).mono ?_
    rintro e w1 ⟨v1, rfl, ho1, hb1⟩
    rw [HE1.out] at ho1
    have HA := hide (box_below (box_new w (.int .i64 K) (.int .i64 N) (.string S) 25) hb1 (by simp))
    have hB1 : Below w.heap.size w w1 := ((Below.refl w.heap.size w).alloc (Nat.le_refl _) _).trans (hb1.mono (by simp))
    obtain ⟨g, c, rfl, hg, o1⟩ := owns_own ho1 hEp
    clear ho1 hb1
    obtain ⟨a0, a1, a2, -, -, -⟩ := box_cell HA.out
    clear HA
    go_wp2_with fail
    refine (specPutText_some _ _ S E _ o1.rd (by omega) hs).mono ?_
    rintro e w2 ⟨v2, rfl, ho2, hb2⟩
    rw [HJ.out] at ho2
    have hB2 : Below w.heap.size w w2 := hB1.trans (hb2.mono hB1.size)
    have HO := hide (ownsRow_base ho2 hB1.size)
    clear hb2 o1 a0 a1 a2 ho2
    go_wp2
    go_ret
    exact ⟨_, rfl, HO.out, hB2⟩
end Go.Proofs.YtofdbnkeddcdjaaDoor
/-
  Six cells (two values in memory) are kept where all that was there is.
-/
namespace Go.Proofs.YtofdbnkeddcdjaaDoor
open Go.RowKit
set_option linter.unusedVariables false

theorem keep6 {W w' : World} {a0 a1 a2 a3 a4 a5 : Addr} {v0 v1 v2 v3 v4 v5 : Value} (hb : Below W.heap.size W w')
    (h : W.cell? a0 = some v0 ∧ W.cell? a1 = some v1 ∧ W.cell? a2 = some v2 ∧ W.cell? a3 = some v3 ∧ W.cell? a4 = some v4 ∧ W.cell? a5 = some v5) :
    w'.cell? a0 = some v0 ∧ w'.cell? a1 = some v1 ∧ w'.cell? a2 = some v2 ∧ w'.cell? a3 = some v3 ∧ w'.cell? a4 = some v4 ∧ w'.cell? a5 = some v5 := by
  obtain ⟨h0, h1, h2, h3, h4, h5⟩ := h
  have k : ∀ {a : Addr} {v : Value}, W.cell? a = some v → w'.cell? a = some v := fun {a v} h => by rw [hb.cell (World.block_lt_of_cell? W _ h)]; exact h
  exact ⟨k h0, k h1, k h2, k h3, k h4, k h5⟩

/-- two values in memory, and all that was there at the head -/
theorem keep7 {w0 W w' : World} {B : Nat} {a0 a1 a2 a3 a4 a5 : Addr} {v0 v1 v2 v3 v4 v5 : Value} (hb : Below W.heap.size W w')
    (h : W.cell? a0 = some v0 ∧ W.cell? a1 = some v1 ∧ W.cell? a2 = some v2 ∧ W.cell? a3 = some v3 ∧ W.cell? a4 = some v4 ∧ W.cell? a5 = some v5 ∧ Below B w0 W ∧ B ≤ W.heap.size) :
    w'.cell? a0 = some v0 ∧ w'.cell? a1 = some v1 ∧ w'.cell? a2 = some v2 ∧ w'.cell? a3 = some v3 ∧ w'.cell? a4 = some v4 ∧ w'.cell? a5 = some v5 ∧ Below B w0 w' ∧ B ≤ w'.heap.size := by
  obtain ⟨h0, h1, h2, h3, h4, h5, h6, h7⟩ := h
  have k : ∀ {a : Addr} {v : Value}, W.cell? a = some v → w'.cell? a = some v := fun {a v} h => by rw [hb.cell (World.block_lt_of_cell? W _ h)]; exact h
  exact ⟨k h0, k h1, k h2, k h3, k h4, k h5, h6.trans (hb.mono h7), Nat.le_trans h7 hb.size⟩

theorem below_al (w : World) (o : Obj) : Below w.heap.size w (w.alloc o) := (Below.refl _ _).alloc (Nat.le_refl _) _
theorem below_ald (w : World) (o : Obj) : Below w.heap.size w (w.alloc o).drew := (below_al w o).drew
/-- a store of three cells into a block that was made where the two values lay -/
theorem keep7s {w0 W W1 : World} {B : Nat} {a0 a1 a2 a3 a4 a5 : Addr} {v0 v1 v2 v3 v4 v5 x y z : Value}
    (h1 : W1.cell? a0 = some v0 ∧ W1.cell? a1 = some v1 ∧ W1.cell? a2 = some v2 ∧ W1.cell? a3 = some v3 ∧ W1.cell? a4 = some v4 ∧ W1.cell? a5 = some v5 ∧ Below B w0 W1 ∧ B ≤ W1.heap.size)
    (h : W.cell? a0 = some v0 ∧ W.cell? a1 = some v1 ∧ W.cell? a2 = some v2 ∧ W.cell? a3 = some v3 ∧ W.cell? a4 = some v4 ∧ W.cell? a5 = some v5 ∧ Below B w0 W ∧ B ≤ W.heap.size)
    (hq : ∃ c0 c1 c2 T, W.heap[W1.heap.size]? = some (.cells #[c0, c1, c2] T (0, 0))) :
    (((W.setCell ⟨W1.heap.size, 0, none⟩ x).setCell ⟨W1.heap.size, 1, none⟩ y).setCell ⟨W1.heap.size, 2, none⟩ z).cell? a0 = some v0 ∧ (((W.setCell ⟨W1.heap.size, 0, none⟩ x).setCell ⟨W1.heap.size, 1, none⟩ y).setCell ⟨W1.heap.size, 2, none⟩ z).cell? a1 = some v1 ∧ (((W.setCell ⟨W1.heap.size, 0, none⟩ x).setCell ⟨W1.heap.size, 1, none⟩ y).setCell ⟨W1.heap.size, 2, none⟩ z).cell? a2 = some v2 ∧ (((W.setCell ⟨W1.heap.size, 0, none⟩ x).setCell ⟨W1.heap.size, 1, none⟩ y).setCell ⟨W1.heap.size, 2, none⟩ z).cell? a3 = some v3 ∧ (((W.setCell ⟨W1.heap.size, 0, none⟩ x).setCell ⟨W1.heap.size, 1, none⟩ y).setCell ⟨W1.heap.size, 2, none⟩ z).cell? a4 = some v4 ∧ (((W.setCell ⟨W1.heap.size, 0, none⟩ x).setCell ⟨W1.heap.size, 1, none⟩ y).setCell ⟨W1.heap.size, 2, none⟩ z).cell? a5 = some v5 ∧ Below B w0 (((W.setCell ⟨W1.heap.size, 0, none⟩ x).setCell ⟨W1.heap.size, 1, none⟩ y).setCell ⟨W1.heap.size, 2, none⟩ z) ∧ B ≤ (((W.setCell ⟨W1.heap.size, 0, none⟩ x).setCell ⟨W1.heap.size, 1, none⟩ y).setCell ⟨W1.heap.size, 2, none⟩ z).heap.size := by
  obtain ⟨c0, c1, c2, T, hq⟩ := hq
  obtain ⟨-, g⟩ := box_set3 hq x y z
  generalize ((W.setCell ⟨W1.heap.size, 0, none⟩ x).setCell ⟨W1.heap.size, 1, none⟩ y).setCell ⟨W1.heap.size, 2, none⟩ z = Y at g ⊢
  obtain ⟨p0, p1, p2, p3, p4, p5, p6, p7⟩ := h1
  obtain ⟨h0, h1, h2, h3, h4, h5, h6, h7⟩ := h
  have k : ∀ {a : Addr} {u v : Value}, W1.cell? a = some u → W.cell? a = some v → Y.cell? a = some v := fun {a u v} p h => g.cell h (by have := World.block_lt_of_cell? W1 _ p; simp; omega)
  exact ⟨k p0 h0, k p1 h1, k p2 h2, k p3 h3, k p4 h4, k p5 h5, h6.grown g h7 (fun j hj => by cases hj; exact p7), Nat.le_trans h7 g.size⟩
theorem below_dr {w u : World} (k : Below w.drew.heap.size w.drew u) : Below w.heap.size w u := (Below.refl w.heap.size w).drew.trans k
theorem below_step {w u v : World} (h : Below w.heap.size w u) (k : Below u.heap.size u v) : Below w.heap.size w v := h.trans (k.mono h.size)
theorem below_end {w u : World} (h : Below w.heap.size w u) (o : Obj) : Below w.heap.size w (u.alloc o) := h.alloc h.size o
theorem box_step {w w' : World} {R : Nat} {o : Obj} (h : w.heap[R]? = some o) (hb : Below w.heap.size w w') : w'.heap[R]? = some o := box_below h hb (Array.getElem?_eq_some_iff.1 h).1
theorem box_newd (w : World) (c0 c1 c2 : Value) (T : TypeId) : (w.alloc (.cells #[c0, c1, c2] T)).drew.heap[w.heap.size]? = some (.cells #[c0, c1, c2] T (0, 0)) := box_new w c0 c1 c2 T
end Go.Proofs.YtofdbnkeddcdjaaDoor
/-
  The contracts of the draws of a text to be read as a value and of bytes to be read as one: some text, some bytes and a place, whatever they are.
-/
namespace Go.Proofs.YtofdbnkeddcdjaaDoor
open Go.RowKit
set_option linter.unusedVariables false

theorem Cur.later {B q : Nat} {w w' : World} (h : Cur B w q) (hb : Below w.heap.size w w') : Cur B w' q := by
  have hlt := h.lt
  obtain ⟨h0, a, cap, code, i, hh, h1, h2, h3, h4⟩ := h
  exact ⟨h0, a, cap, code, i, hh, h1, h2, h3.below (hb.mono (by omega)), box_step h4 hb⟩
theorem below_no {w w' : World} (h : w.grownBy w' none) : Below w.heap.size w w' := (Below.refl _ _).grown h (Nat.le_refl _) (fun k hk => by cases hk)
theorem below_one {w0 w w' : World} {q : Nat} (hb : Below w0.heap.size w0 w) (h : w.grownBy w' (some q)) (hq : w0.heap.size ≤ q) : Below w0.heap.size w0 w' := hb.grown h hb.size (fun k hk => by cases hk; exact hq)

set_option maxRecDepth 100000 in
set_option maxHeartbeats 1600000 in
theorem drawParseVal_any (a : Option Addr) (cap : Nat) (code : List UInt8) (w : World) (hr : Rd w a code) (hn : code.length ≤ 1048576) :
    Calls Tryd.prog 13 #[.slice a code.length cap] w fun e w' => ∃ s, e = .returned (.string s) ∧ s.size ≤ 100 ∧ Below w.heap.size w w' := by
  go_enter Tryd.func13, Tryd.ntmps13
  go_wp2_with fail
  refine (l1New_any w.heap.size a cap code w hr.toB hn (Nat.le_refl _)).mono ?_
  rintro e w1 ⟨rfl, c1, g1⟩
  have B1 := below_no g1
  clear g1
  go_wp2_with fail
  refine (l1Once_any w.heap.size w.heap.size 3 w1 c1 (by omega) (by omega)).mono ?_
  rintro e w2 ⟨b, rfl, c2, g2⟩
  have B2 := below_one B1 g2 (Nat.le_refl _)
  have hq2 := c2.lt
  clear g2 c1 B1
  cases b
  · go_wp2_with fail
    refine (l2Draw_any w.heap.size w.heap.size w2 c2).mono ?_
    rintro e w3 ⟨K, N, S, rfl, hS, c3, g3⟩
    have B3 := below_one B2 g3 (Nat.le_refl _)
    clear g3 c2 c3 B2
    go_wp2_with fail
    refine (specValText_any K N S w3 (by unfold maxLen; omega)).mono ?_
    rintro e w4 ⟨rfl, b4⟩
    have B4 : Below w.heap.size w w4 := B3.trans (b4.mono B3.size)
    have HS : Hid ((textV K N S).size ≤ 100) := by
      unfold Hid
      cases hv : valB K N S
      · rw [textV_no hv]; decide
      · have := textV_size hv; omega
    generalize textV K N S = tx at HS ⊢
    go_wp2
    go_ret
    exact ⟨_, rfl, HS.out, B4⟩
  · go_wp2_with fail
    refine (l1Str_any w.heap.size w.heap.size w2.heap.size [⟨#[]⟩, ⟨#[48, 49]⟩, ⟨#[45, 48]⟩, ⟨#[45]⟩, ⟨#[39]⟩, ⟨#[39, 39]⟩, ⟨#[39, 65, 39]⟩, ⟨#[39, 97]⟩, ⟨#[97]⟩, ⟨#[49, 48, 48, 48, 48, 48, 48, 48, 48, 49]⟩, ⟨#[57, 57, 57, 57, 57, 57, 57, 57, 57, 57, 57]⟩, ⟨#[45, 45, 49]⟩, ⟨#[39, 116, 119, 101, 110, 116, 121, 111, 110, 101, 98, 121, 116, 101, 115, 116, 119, 101, 110, 116, 121, 111, 39]⟩] 13 _ (c2.keep (World.grownBy_alloc w2 _ none) (by simp) (by simp)) (by decide) (by decide) (by omega) (cells_strs w2 9 _)).mono ?_
    rintro e w3 ⟨s, rfl, hx, c3, g3⟩
    have HS : Hid (s.size ≤ 100) := by
      unfold Hid
      simp only [List.mem_cons, List.not_mem_nil, or_false] at hx
      rcases hx with rfl | rfl | rfl | rfl | rfl | rfl | rfl | rfl | rfl | rfl | rfl | rfl | rfl <;> decide
    have B3 := below_one (B2.alloc B2.size _) g3 (Nat.le_refl _)
    clear hx g3 c2
    go_wp2
    go_ret
    exact ⟨_, rfl, HS.out, B3⟩

set_option maxRecDepth 100000 in
set_option maxHeartbeats 1600000 in
theorem l1At_any (B q : Nat) (a : Option Addr) (n cap : Nat) (w : World) (hc : Cur B w q) (hn : n ≤ 1000) :
    Calls Tryd.prog 38 #[.pointer (some ⟨q, 0, none⟩), .slice a n cap] w fun e w' => ∃ x : Int, e = .returned (.int .i64 x) ∧ w.grownBy w' (some q) := by
  have hq := hc.lt
  go_enter Tryd.func38, Tryd.ntmps38
  go_wp2_with fail
  refine (l1Below_any B q ((n : Int) + 1) w hc (by omega) (by omega)).mono ?_
  rintro e w1 ⟨y, rfl, y0, y1, c1, g1⟩
  have hq1 := c1.lt
  go_wp2_with fail
  refine (l1Int_any B q w1.heap.size [0, 0, 0, (n : Int), y, -1, 9223372036854775807] 7 _ (c1.keep (World.grownBy_alloc w1 _ none) (by simp) (by simp)) (by simp) (by simp) (by omega) (cells_lit w1 3 _)).mono ?_
  rintro e w2 ⟨x, rfl, hx, c2, g2⟩
  have G2 : w.grownBy w2 (some q) := grown_trans (grown_trans g1 (grown_alloc w1 _ q)) g2
  clear hx g2 g1 c1
  go_wp2
  go_ret
  exact ⟨_, rfl, G2⟩

theorem vals_set (bs : List UInt8) (k : Nat) (c : UInt8) : (vals bs).set k (.int .u8 (c.toNat : Int)) = vals (bs.set k c) := by unfold vals; rw [List.map_set]
theorem Own.set {w : World} {g cap k : Nat} {bs : List UInt8} (h : Own w g cap bs) (hk : k < bs.length) (c : UInt8) :
    Own (w.setCell ⟨g, k, none⟩ (.int .u8 (c.toNat : Int))) g cap (bs.set k c) ∧ w.grownBy (w.setCell ⟨g, k, none⟩ (.int .u8 (c.toNat : Int))) (some g) := by
  have := World.ownsRow.stored h k (.int .u8 (c.toNat : Int))
  rw [vals_set] at this
  refine ⟨?_, this.2⟩
  unfold Own
  rw [List.length_set]
  exact this.1
theorem Rd.take {w : World} {b off : Nat} {bs : List UInt8} (h : Rd w (some ⟨b, off, none⟩) bs) (A B : Nat) (hAB : A ≤ B) (hB : B ≤ bs.length) : Rd w (some ⟨b, off + A, none⟩) ((bs.drop A).take (B - A)) := by
  intro i hi
  have hi2 : i < B - A := by simp at hi; omega
  obtain ⟨b', off', e, hc⟩ := h (A + i) (by omega)
  simp only [Option.some.injEq, Addr.mk.injEq, and_true] at e
  obtain ⟨rfl, rfl⟩ := e
  refine ⟨b, off + A, rfl, ?_⟩
  rw [show off + A + i = off + (A + i) by omega, hc]
  unfold byteAt
  simp [List.getD, hi2]
/-- some bytes and a place are drawn -/
def GivesB (e : Ending) (w : World) : Prop := ∃ (g cp : Nat) (bs : List UInt8) (x : Int), e = .returned (.tuple #[.slice (some ⟨g, 0, none⟩) bs.length cp, .int .i64 x]) ∧ bs.length ≤ 60 ∧ bs.length ≤ cp ∧ Rd w (some ⟨g, 0, none⟩) bs
theorem gives_b {w : World} {g cp n : Nat} {bs : List UInt8} {x : Int} (hn : bs.length = n) (h : bs.length ≤ 60) (hc : bs.length ≤ cp) (hr : Rd w (some ⟨g, 0, none⟩) bs) : GivesB (.returned (.tuple #[.slice (some ⟨g, 0, none⟩) n cp, .int .i64 x])) w := by
  subst hn; exact ⟨g, cp, bs, x, rfl, h, hc, hr⟩
theorem rd_grown {w w' : World} {g q : Nat} {bs : List UInt8} (h : Rd w (some ⟨g, 0, none⟩) bs) (hg : w.grownBy w' (some q)) (hne : g ≠ q) : Rd w' (some ⟨g, 0, none⟩) bs := by
  intro i hi
  obtain ⟨b, off, e, hc⟩ := h i hi
  refine ⟨b, off, e, hg.cell hc ?_⟩
  simp only [Option.some.injEq, Addr.mk.injEq, and_true] at e
  simp; omega

set_option maxRecDepth 100000 in
set_option maxHeartbeats 3200000 in
theorem drawGetVal_any (a : Option Addr) (cap : Nat) (code : List UInt8) (w : World) (hr : Rd w a code) (hn : code.length ≤ 1048576) :
    Calls Tryd.prog 15 #[.slice a code.length cap] w fun e w' => GivesB e w' ∧ Below w.heap.size w w' := by
  go_enter Tryd.func15, Tryd.ntmps15
  go_wp2_with fail
  refine (l1New_any w.heap.size a cap code w hr.toB hn (Nat.le_refl _)).mono ?_
  rintro e w1 ⟨rfl, c1, g1⟩
  have B1 := below_no g1
  have hq1 := c1.lt
  clear g1
  go_wp2_with fail
  refine (l2Draw_any w.heap.size w.heap.size _ (c1.keep (World.grownBy_alloc w1 (.cells #[] 5) none) (by simp) (by simp))).mono ?_
  rintro e w2 ⟨K, N, S, rfl, hS, c2, g2⟩
  have B2 := below_one (B1.alloc B1.size _) g2 (Nat.le_refl _)
  have hq2 := c2.lt
  have hrn : Rd w2 (some ⟨w1.heap.size, 0, none⟩) [] := fun i hi => absurd hi (Nat.not_lt_zero _)
  clear g2 c1 B1
  go_wp2_with fail
  refine (specPutVal_some ⟨w1.heap.size, 0, none⟩ 0 K N S [] w2 hrn (by simp) (by omega)).mono ?_
  rw [List.nil_append]
  rintro e w3 ⟨v, rfl, ho, b3⟩
  obtain ⟨E, hE⟩ : ∃ E, encV K N S = E := ⟨_, rfl⟩
  have hl := encV_length K N S
  have hp := encV_pos K N S
  rw [hE] at ho hl hp
  obtain ⟨g, cg, rfl, hg, o3⟩ := owns_own ho hp
  have B3 : Below w.heap.size w w3 := B2.trans (b3.mono B2.size)
  have c3 := c2.later b3
  have hgq : g ≠ w.heap.size := by omega
  have hwg : w.heap.size ≤ g := by omega
  clear ho b3 c2 hE B2
  go_wp2_with fail
  refine (l1Below_any w.heap.size w.heap.size 4 w3 c3 (by omega) (by omega)).mono ?_
  rintro e w4 ⟨x, rfl, x0, x1, c4, g4⟩
  have B4 := below_one B3 g4 (Nat.le_refl _)
  have o4 := o3.grown g4 hgq
  clear g4 c3 o3 B3
  have hlc := o4.cap
  by_cases h0 : x = 0
  · subst h0
    go_wp2_with fail
    refine (l1Below_any w.heap.size w.heap.size (E.length : Int) w4 c4 (by omega) (by omega)).mono ?_
    rintro e w5 ⟨y, rfl, y0, y1, c5, g5⟩
    obtain ⟨k, rfl⟩ := Int.eq_ofNat_of_zero_le y0
    have B5 := below_one B4 g5 (Nat.le_refl _)
    have o5 := o4.grown g5 hgq
    have hq5 := c5.lt
    clear g5 c4 o4 B4
    go_wp2_with fail
    refine (l1Int_any w.heap.size w.heap.size w5.heap.size [0, 1, 2, 4, 97, 128] 6 _ (c5.keep (World.grownBy_alloc w5 _ none) (by simp) (by simp)) (by decide) (by decide) (by omega) (cells_lit w5 3 _)).mono ?_
    rintro e w6 ⟨z, rfl, hz, c6, g6⟩
    have B6 := below_one (B5.alloc B5.size _) g6 (Nat.le_refl _)
    have o6 := (o5.later (below_al w5 (.cells #[.int .i64 0, .int .i64 1, .int .i64 2, .int .i64 4, .int .i64 97, .int .i64 128] 3))).grown g6 hgq
    obtain ⟨c, hc⟩ : ∃ c : UInt8, IntKind.u8.wrap z = (c.toNat : Int) := by
      simp only [List.mem_cons, List.not_mem_nil, or_false] at hz
      rcases hz with rfl | rfl | rfl | rfl | rfl | rfl
      · exact ⟨0, rfl⟩
      · exact ⟨1, rfl⟩
      · exact ⟨2, rfl⟩
      · exact ⟨4, rfl⟩
      · exact ⟨97, rfl⟩
      · exact ⟨128, rfl⟩
    have hkE : k < E.length := by omega
    obtain ⟨os, gs⟩ := o6.set hkE c
    have HOs := hide os
    have Bs := below_one B6 gs hwg
    have HCs := hide (c6.keep gs (by simp; omega) (fun j hj => by cases hj; exact hwg))
    obtain ⟨u, m0⟩ : ∃ u, w6.cell? ⟨g, k, none⟩ = some u := by
      rw [World.ownsRow.cellAt o6 k (by omega), List.getElem?_eq_getElem (by rw [vals_length]; exact hkE)]
      exact ⟨_, rfl⟩
    have f0 : w6.frozen? ⟨g, k, none⟩ = false := World.ownsRow.frozenAt o6 k
    clear g6 c5 o5 hz o6 os gs c6 B5
    go_wp2_with fail
    generalize w6.setCell ⟨g, k, none⟩ (.int .u8 (c.toNat : Int)) = w7 at HOs HCs Bs ⊢
    refine (l1At_any w.heap.size w.heap.size _ E.length cg w7 HCs.out (by omega)).mono ?_
    rintro e w8 ⟨p, rfl, g8⟩
    have B8 := below_one Bs g8 (Nat.le_refl _)
    have hls : (E.set k c).length = E.length := List.length_set
    have HF : Hid (GivesB (.returned (.tuple #[.slice (some ⟨g, 0, none⟩) E.length cg, .int .i64 p])) w8) := gives_b hls (by rw [hls]; omega) (by rw [hls]; exact hlc) (rd_grown HOs.out.rd g8 hgq)
    clear hls
    go_wp2
    go_ret2
    exact ⟨HF.out, B8⟩
  · by_cases h1 : x = 1
    · subst h1
      go_wp2_with fail
      refine (l1Below_any w.heap.size w.heap.size (E.length : Int) w4 c4 (by omega) (by omega)).mono ?_
      rintro e w5 ⟨y, rfl, y0, y1, c5, g5⟩
      obtain ⟨k, rfl⟩ := Int.eq_ofNat_of_zero_le y0
      have B5 := below_one B4 g5 (Nat.le_refl _)
      have o5 := o4.grown g5 hgq
      have r5 := o5.rd.take 0 k (Nat.zero_le _) (by omega)
      clear g5 c4 o4 B4
      have i1 : (k : Int) ≤ (cg : Int) := by omega
      go_wp2_with fail
      refine (l1At_any w.heap.size w.heap.size _ k cg w5 c5 (by omega)).mono ?_
      rintro e w8 ⟨p, rfl, g8⟩
      have B8 := below_one B5 g8 (Nat.le_refl _)
      have hls : ((E.drop 0).take (k - 0)).length = k := by simp; omega
      have HF : Hid (GivesB (.returned (.tuple #[.slice (some ⟨g, 0, none⟩) k cg, .int .i64 p])) w8) := gives_b hls (by rw [hls]; omega) (by rw [hls]; omega) (rd_grown r5 g8 hgq)
      clear hls
      go_wp2
      go_ret2
      exact ⟨HF.out, B8⟩
    · have h0b : (x == 0) = false := by simpa using h0
      have h1b : (x == 1) = false := by simpa using h1
      go_wp2_with fail
      refine (l1At_any w.heap.size w.heap.size _ E.length cg w4 c4 (by omega)).mono ?_
      rintro e w8 ⟨p, rfl, g8⟩
      have B8 := below_one B4 g8 (Nat.le_refl _)
      have HF : Hid (GivesB (.returned (.tuple #[.slice (some ⟨g, 0, none⟩) E.length cg, .int .i64 p])) w8) := gives_b rfl (by omega) hlc (rd_grown o4.rd g8 hgq)
      go_wp2
      go_ret2
      exact ⟨HF.out, B8⟩
end Go.Proofs.YtofdbnkeddcdjaaDoor
/-
  What the tested writer of numbers makes: a row of the call's own that holds the bytes, and behind them encN of the number; nothing that was there has turned.
-/
namespace Go.Proofs.YtofdbnkeddcdjaaDoor
open Go.RowKit
set_option linter.unusedVariables false

/-- 'make' of a length and room behind it, both reckoned -/
theorem wpList_make_room {P : Program} (w : World) {ops : Array Oper} {rest : List Oper} {o : Oper} {a : Act} {Q : Exit → Act → World → Prop}
    (hg : o.guard = none) (l c : Operand) (t : TypeId) (hop : o.op = Op.makeSlice t l c)
    (e : TypeId) (i : TypeInfo) (z : Value) (h1 : P.underlying t = some (.slice e)) (h2 : P.info? e = some i) (h3 : i.zero = some z) (h4 : i.size = 1) (hz : z.cells = #[z])
    (kl kc : IntKind) (L C : Int) (n m : Nat) (hl : a.eval l = .int kl L) (hc : a.eval c = .int kc C) (hL : L = (n : Int)) (hC : C = (m : Int)) (hnm : n ≤ m) (b2 : i.bytes * m ≤ 281474976710656) (b3 : m ≤ maxLen)
    (hK : ∀ w', Hid (w'.heap[w.heap.size]? = some (.cells (List.replicate m z).toArray e (0, 0))) → w.grownBy w' none → wpList P ops Q rest (a.put o.dst (.slice (some ⟨w.heap.size, 0, none⟩) n m)) w') :
    wpList P ops Q (o :: rest) a w := by
  refine wpList_plain hg fun K hK' => ?_
  subst hL
  subst hC
  have hb' : (i.bytes : Int) * (m : Int) ≤ 281474976710656 := by
    have h : ((i.bytes * m : Nat) : Int) ≤ 281474976710656 := by omega
    rwa [Int.natCast_mul] at h
  have hr := run_make (P := P) w t e i z h1 h2 h3 kl kc n m (by omega) (by omega) hb' (by unfold maxLen at b3; omega)
  simp only [Int.toNat_natCast] at hr
  have hcs : madeCells z.cells (m * i.size) = (List.replicate m z).toArray := by
    rw [hz, h4, Nat.mul_one, ← toList_madeCells_one]
  rw [hcs] at hr
  unfold Oper.wp
  simp [execOp, hop, hl, hc, hr, Result.andThen]
  exact hK' _ _ (hK _ (by show (w.heap.push _)[w.heap.size]? = _; simp) (World.grownBy_alloc w _ none))

theorem splice_owns {w : World} {B n m : Nat} {bs : List UInt8} (hn : n = bs.length) (hnm : n ≤ m) (hm : m ≤ maxLen)
    (h : w.heap[B]? = some (.cells (splice (List.replicate m (Value.int .u8 0)) 0 (vals bs)).toArray 5 (0, 0))) :
    w.ownsRow B 5 1 (.slice (some ⟨B, 0, none⟩) n m) n (vals bs) := by
  refine ⟨by rw [vals_length]; omega, .inr ⟨B, m, _, rfl, Nat.le_refl _, h, hnm, hm, ?_, ?_⟩⟩
  · simp [splice, vals_length]; omega
  · simp [splice]
    rw [List.take_append_of_le_length (by rw [vals_length]; omega), List.take_of_length_le (by rw [vals_length]; omega)]

/-- every block that is no row of bytes stands as it stood -/
def TagKept (w w' : World) : Prop := ∀ (q : Nat) (cs : Array Value) (T : TypeId) (fr : Nat × Nat), T ≠ 5 → w.heap[q]? = some (.cells cs T fr) → w'.heap[q]? = some (.cells cs T fr)
theorem TagKept.refl (w : World) : TagKept w w := fun _ _ _ _ _ h => h
theorem TagKept.trans {a b c : World} (h : TagKept a b) (k : TagKept b c) : TagKept a c := fun q cs T fr hT hq => k q cs T fr hT (h q cs T fr hT hq)
theorem TagKept.alloc (w : World) (o : Obj) : TagKept w (w.alloc o) := by
  intro q cs T fr _ hq
  have hlt := (Array.getElem?_eq_some_iff.1 hq).1
  rw [← hq]
  show (w.heap.push o)[q]? = _
  rw [Array.getElem?_push, if_neg (by omega)]
theorem TagKept.below {w w' : World} (h : Below w.heap.size w w') : TagKept w w' := by
  intro q cs T fr _ hq
  rw [h.block q (Array.getElem?_eq_some_iff.1 hq).1]; exact hq
theorem TagKept.grown {w w' : World} {base n : Nat} {v : Value} {xs : List Value} (hown : w.ownsRow base 5 1 v n xs) (hg : w.grownBy w' v.ownBlock) : TagKept w w' := by
  intro q cs T fr hT hq
  have hlt := (Array.getElem?_eq_some_iff.1 hq).1
  rw [hg.block q hlt, hq]
  intro e
  rcases hown.2 with ⟨rfl, _⟩ | ⟨g, cap, cur, rfl, hb, hcur, _⟩
  · cases e
  · simp only [Value.ownBlock, Option.some.injEq] at e
    subst e
    rw [hcur] at hq
    simp only [Option.some.injEq, Obj.cells.injEq] at hq
    exact hT hq.2.1.symm

theorem Tryd.size5 : (Tryd.prog.info? 5).map (·.size) = some 1 := by kernel_rfl

set_option maxHeartbeats 1600000 in
theorem copyWithRoom_any (a : Option Addr) (cap room : Nat) (bs : List UInt8) (w : World) (hr : Rd w a bs) (hn : bs.length ≤ 33554432) (hm : room ≤ 33554432) :
    Calls Tryd.prog 28 #[.slice a bs.length cap, .int .i64 (room : Int)] w fun e w' =>
      e = .returned (.slice (some ⟨w.heap.size, 0, none⟩) bs.length (bs.length + room)) ∧ w'.ownsRow w.heap.size 5 1 (.slice (some ⟨w.heap.size, 0, none⟩) bs.length (bs.length + room)) bs.length (vals bs) ∧ Below w.heap.size w w' := by
  obtain ⟨i0, hi, hz0, hz1, hz2⟩ := info_parts Tryd.info5
  obtain ⟨n, hN⟩ : ∃ n, n = bs.length := ⟨_, rfl⟩
  rw [← hN] at hn ⊢
  have HN := hide hN
  clear hN
  go_enter Tryd.func28, Tryd.ntmps28
  go_wp2_with (at_make; refine wpList_make_room _ rfl _ _ 22 rfl 5 i0 (.int .u8 0) Tryd.underlying22 hi hz0 hz1 rfl _ _ _ _ n (n + room) rfl rfl (by omega) (by omega) (by omega) (by rw [hz2]; omega) (by unfold maxLen; omega) ?_)
  intro w1 hh1 hg1
  have hb1 : Below w.heap.size w w1 := (Below.refl _ _).grown hg1 (Nat.le_refl _) (fun k h => by cases h)
  clear hg1
  go_wp2_with (refine wpList_copy_splice rfl (.tmp 13) (.tmp 14) 22 22 rfl 5 Tryd.underlying22 Tryd.size5 _ _ n (n + room) n cap rfl rfl w.heap.size 0 (List.replicate (n + room) (.int .u8 0)) 5 hh1.out (vals bs) ?c1 ?c2 ?c3 (vals_one bs) w.heap.size w hb1 (Nat.le_refl _) ?_)
  case c1 => rw [vals_length, ← HN.out]; exact (Nat.min_self n).symm
  case c2 =>
    intro hp
    rw [vals_length] at hp
    obtain ⟨b, off, rfl, _, _⟩ := hr.open hp
    first
      | exact ⟨rfl, _, rfl, rd_cells (hr.below hb1)⟩
      | exact ⟨_, rfl, rd_cells (hr.below hb1)⟩
  case c3 => rw [vals_length, ← HN.out]; simp
  intro w2 hh2 hb2
  have HO := hide (splice_owns HN.out (show n ≤ n + room by omega) (by unfold maxLen; omega) hh2.out)
  clear hh1 hh2
  go_wp2
  go_ret
  exact ⟨rfl, HO.out, hb2⟩

set_option maxHeartbeats 400000 in
theorem foldSign_any (n : Int) (w : World) (h : -1000000000 ≤ n) (h2 : n ≤ 1000000000) :
    Calls Tryd.prog 58 #[.int .i64 n] w fun e w' => e = .returned (.int .i64 (foldN n : Nat)) ∧ w' = w := by
  by_cases hneg : n < 0
  · have HU := hide (foldN_neg hneg)
    go_enter Tryd.func58, Tryd.ntmps58
    go_wp2
    go_ret
    exact ⟨ret_int (by rw [HU.out]), rfl⟩
  · have HU := hide (foldN_pos hneg)
    go_enter Tryd.func58, Tryd.ntmps58
    go_wp2
    go_ret
    exact ⟨ret_int (by rw [HU.out]), rfl⟩

set_option maxRecDepth 100000 in
set_option maxHeartbeats 1600000 in
theorem putGroups_any (v : Value) (len base M : Nat) (bs : List UInt8) (w : World) (hown : w.ownsRow base 5 1 v len (vals bs)) (hbase : base ≤ w.heap.size) (hn : bs.length ≤ 33554432) (hM : M ≤ 2000000000) :
    Calls Tryd.prog 57 #[v, .int .i64 (M : Int)] w fun e w' =>
      ∃ v', e = .returned v' ∧ w'.ownsRow base 5 1 v' (bs ++ encG 5 M).length (vals (bs ++ encG 5 M)) ∧ Below base w w' ∧ TagKept w w' := by
  obtain ⟨i0, hi, hz0, hz1, hz2⟩ := info_parts Tryd.info5
  have hlen : len = bs.length := by have := hown.1; rw [vals_length] at this; omega
  subst hlen
  have hE := encG_length 5 M
  obtain ⟨E, HE⟩ : ∃ E, Hid (encG 5 M = E) := ⟨_, rfl⟩
  rw [HE.out] at hE ⊢
  have hown0 := hide hown
  clear hown
  go_enter Tryd.func57, Tryd.ntmps57
  go_wp2
  go_loopw [0, 1] (fun out mm wr => ∃ (m f : Nat) (pre : List UInt8), mm = .int .i64 m ∧ m < 128 ^ f ∧ m ≤ 2000000000 ∧ pre ++ encG f m = E ∧ wr.ownsRow base 5 1 out (bs.length + pre.length) (vals (bs ++ pre)) ∧ Below base w wr ∧ TagKept w wr)
    (fun _ mm _ => (intOf mm).toNat)
  case atStart => exact ⟨M, 5, [], rfl, Nat.lt_of_le_of_lt hM (by decide), hM, HE.out, by simpa using hown0.out, Below.refl _ _, TagKept.refl _⟩
  case round =>
    obtain ⟨m, f, pre, rfl, hm, hm2, hp, hown, hbel, htag⟩ := hrel
    have HTG := hide htag
    clear htag
    have HM := hide hm
    have HP := hide hp
    have hpl : pre.length ≤ 6 := by rw [← hp] at hE; simp at hE; omega
    have hsz : base ≤ wr.heap.size := Nat.le_trans hbase hbel.size
    clear hm hp hE
    by_cases hlt : m < 128
    · have HZ : Hid (vals (bs ++ pre) ++ [Value.int .u8 (m : Int)] = vals (bs ++ E) ∧ bs.length + pre.length + 1 = (bs ++ E).length) := by
        refine ⟨?_, ?_⟩
        · rw [vals_last hlt, ← vals_append, ← HP.out, encG_small hlt, List.append_assoc]
        · rw [← HP.out, encG_small hlt]; simp; omega
      go_wp2_with (at_builtin; refine wpList_append_own _ rfl (.tmp 16) (.tmp 19) 22 rfl base 5 i0 (.int .u8 0) 1 1 Tryd.underlying22 hi hz0 hz1 hz2 rfl (by decide) _ _ _ rfl (hown.alloc _) ⟨wr.heap.size, 0, none⟩ 1 1 [.int .u8 (m : Int)] rfl rfl (one_cell _ _ _) (by intro u hu; simp at hu; subst hu; rfl) (by unfold maxLen; omega) (by omega) (by simp; omega) ?_)
      intro v2 w2 hown2 hgrow2 _
      rw [HZ.out.1, HZ.out.2] at hown2
      have hb2 : Below base w w2 := (hbel.alloc hsz _).grown hgrow2 (by simp; omega) (fun k hk => (hown.lt k hk).1)
      have HT2 := hide ((HTG.out.trans (TagKept.alloc _ _)).trans (TagKept.grown (hown.alloc _) hgrow2))
      clear hgrow2 hown
      go_wp2
      go_ret
      exact ⟨_, rfl, hown2, hb2, HT2.out⟩
    · obtain ⟨g, rfl, hg1, hg2⟩ := enc_step hlt HM.out
      have HG := hide hg2
      clear hg2
      go_wp2_with (at_builtin; refine wpList_append_own _ rfl (.tmp 7) (.tmp 12) 22 rfl base 5 i0 (.int .u8 0) 1 1 Tryd.underlying22 hi hz0 hz1 hz2 rfl (by decide) _ _ _ rfl (hown.alloc _) ⟨wr.heap.size, 0, none⟩ 1 1 [.int .u8 ((m : Int) % 128 + 128)] rfl rfl (one_cell _ _ _) (by intro u hu; simp at hu; subst hu; rfl) (by unfold maxLen; omega) (by omega) (by simp; omega) ?_)
      intro v2 w2 hown2 hgrow2 _
      rw [vals_cont m, ← vals_append] at hown2
      have hb2 : Below base w w2 := (hbel.alloc hsz _).grown hgrow2 (by simp; omega) (fun k hk => (hown.lt k hk).1)
      have HT2 := hide ((HTG.out.trans (TagKept.alloc _ _)).trans (TagKept.grown (hown.alloc _) hgrow2))
      clear hgrow2 hown
      go_wp2
      go_roundw
      case rel =>
        refine ⟨m / 128, g, pre ++ [UInt8.ofNat (m % 128 + 128)], by go_num, hg1, by omega, ?_, ?_, hb2, HT2.out⟩
        · rw [List.append_assoc, List.singleton_append, ← HG.out]; exact HP.out
        · rw [← List.append_assoc]; simpa [Nat.add_assoc] using hown2
      case measure => simp [intOf]; omega

/-- the kept number, case by case -/
theorem clamp_cases (n : Int) : (1000000000 < n ∧ clampN n = 1000000000) ∨ (n < -1000000000 ∧ clampN n = -1000000000) ∨ ((-1000000000 ≤ n ∧ n ≤ 1000000000) ∧ clampN n = n) := by
  unfold clampN; split; omega; split <;> omega

set_option maxHeartbeats 1600000 in
theorem putNums_one (v : Value) (len base q : Nat) (n : Int) (bs : List UInt8) (w : World) (hown : w.ownsRow base 5 1 v len (vals bs)) (hbase : base ≤ w.heap.size) (hn : bs.length ≤ 33554432) (hq : w.cell? ⟨q, 0, none⟩ = some (.int .i64 n)) :
    Calls Tryd.prog 47 #[v, .slice (some ⟨q, 0, none⟩) 1 1] w fun e w' =>
      ∃ v', e = .returned v' ∧ w'.ownsRow base 5 1 v' (bs ++ encN n).length (vals (bs ++ encN n)) ∧ Below base w w' ∧ TagKept w w' := by
  rcases clamp_cases n with ⟨h1, h2⟩ | ⟨h1, h2⟩ | ⟨⟨h0, h1⟩, h2⟩
  all_goals
    have HE : Hid (encN n = encG 5 (foldN (clampN n))) := rfl
    rw [h2] at HE
    clear h2
    go_enter Tryd.func47, Tryd.ntmps47
    go_wp2
    go_loopw [0, 9] (fun out i wr => (i = .int .i64 0 ∧ out = v ∧ wr = w) ∨ (i = .int .i64 1 ∧ wr.ownsRow base 5 1 out (bs ++ encN n).length (vals (bs ++ encN n)) ∧ Below base w wr ∧ Hid (TagKept w wr))) (fun _ i _ => 1 - (intOf i).toNat)
    case atStart => exact Or.inl ⟨rfl, rfl, rfl⟩
    case round =>
      rcases hrel with ⟨rfl, rfl, rfl⟩ | ⟨rfl, hown2, hb2, ht2⟩
      · go_wp2_with (go_at_call 58; refine (foldSign_any _ _ (by omega) (by omega)).mono ?_; rintro e w' ⟨rfl, rfl⟩)
        refine (putGroups_any _ len base _ bs _ hown hbase hn (foldN_le (by omega))).mono ?_
        rintro e w2 ⟨v2, rfl, hown2, hb2, ht2⟩
        have HT2 := hide ht2
        clear ht2
        rw [← HE.out] at hown2
        go_wp2
        go_roundw
        case rel => exact Or.inr ⟨by go_num, hown2, hb2, HT2⟩
        case measure => simp [intOf]
      · go_wp2
        go_ret
        exact ⟨_, rfl, hown2, hb2, ht2.out⟩
end Go.Proofs.YtofdbnkeddcdjaaDoor
/-
  What the tested writer of texts makes: a row of the call's own that holds the bytes, and behind them the text's length and the text; nothing that was there has turned.
-/
namespace Go.Proofs.YtofdbnkeddcdjaaDoor
open Go.RowKit
set_option linter.unusedVariables false

set_option maxHeartbeats 1600000 in
theorem addText_any (v : Value) (len base : Nat) (s : ByteArray) (bs : List UInt8) (w : World) (hown : w.ownsRow base 5 1 v len (vals bs)) (hbase : base ≤ w.heap.size) (hn : bs.length ≤ 33554300) (hs : s.size ≤ 1048580) :
    Calls Tryd.prog 48 #[v, .string s] w fun e w' =>
      ∃ v', e = .returned v' ∧ w'.ownsRow base 5 1 v' (bs ++ encT s).length (vals (bs ++ encT s)) ∧ Below base w w' ∧ TagKept w w' := by
  obtain ⟨i0, hi, hz0, hz1, hz2⟩ := info_parts Tryd.info5
  have hl := encN_length s.size
  have HJ := hide (encT_join bs s)
  have HL := hide (encT_len bs s)
  go_enter Tryd.func48, Tryd.ntmps48
  go_wp2_with fail
  refine (putNums_one _ len base w.heap.size s.size bs _ (hown.alloc _) (by simp; omega) (by omega) (by simp)).mono ?_
  rintro e w2 ⟨v2, rfl, hown2, hb2, ht2⟩
  have HT2 := hide ((TagKept.alloc w _).trans ht2)
  clear ht2
  have hb : Below base w w2 := ((Below.refl _ _).alloc hbase _).trans hb2
  clear hown hb2
  go_wp2_with (at_builtin; refine Lib.wpList_append_own_string _ rfl (.tmp 9) (.tmp 10) 22 9 rfl base 5 i0 Tryd.underlying22 Tryd.underlying9 hi hz0 hz1 hz2 _ _ _ rfl hown2 s rfl (by unfold maxLen; simp; omega) (by simp; omega) (Nat.le_trans hbase hb.size) ?_)
  intro v3 w3 hown3 hgrow3 _
  rw [HJ.out, HL.out] at hown3
  have hb3 : Below base w w3 := hb.grown hgrow3 (Nat.le_trans hbase hb.size) (fun k hk => (hown2.lt k hk).1)
  have HT3 := hide (HT2.out.trans (TagKept.grown hown2 hgrow3))
  clear hgrow3 hown2
  go_wp2
  go_ret
  exact ⟨_, rfl, hown3, hb3, HT3.out⟩
end Go.Proofs.YtofdbnkeddcdjaaDoor
/-
  What the tested writer of values makes: a row of the call's own that holds the bytes, and behind them encV of the value; nothing that was there has turned.
-/
namespace Go.Proofs.YtofdbnkeddcdjaaDoor
open Go.RowKit
set_option linter.unusedVariables false

theorem bcellB {B : Nat} {W w1 : World} (hb : Below B W w1) : ∀ b o, b < B → w1.cell? ⟨b, o, none⟩ = W.cell? ⟨b, o, none⟩ := fun b o h => hb.cell (p := ⟨b, o, none⟩) h

set_option maxHeartbeats 1600000 in
theorem addVal_any (v : Value) (len base : Nat) (K N : Int) (S : ByteArray) (bs : List UInt8) (w : World) (hown : w.ownsRow base 5 1 v len (vals bs)) (hbase : base ≤ w.heap.size) (hn : bs.length ≤ 33554000) (hs : S.size ≤ 1048580) :
    Calls Tryd.prog 27 #[v, .agg #[.int .i64 K, .int .i64 N, .string S]] w fun e w' =>
      ∃ v', e = .returned v' ∧ w'.ownsRow base 5 1 v' (bs ++ encV K N S).length (vals (bs ++ encV K N S)) ∧ Below base w w' := by
  have hl := encN_length K
  by_cases hK : K = 1
  · subst hK
    have HE := hide (encV_num N S)
    obtain ⟨E, HE1⟩ : ∃ E, Hid (bs ++ encN 1 = E) := ⟨_, rfl⟩
    have hE : E.length ≤ bs.length + 6 := by rw [← HE1.out]; simp; omega
    have HJ : Hid (E ++ encN N = bs ++ encV 1 N S) := by unfold Hid; rw [← HE1.out, HE.out, List.append_assoc]
    clear HE hl
    go_enter Tryd.func27, Tryd.ntmps27
    go_wp2_with fail
    refine (putNums_one _ len base (w.heap.size + 1) 1 bs _ ((hown.alloc _).alloc _) (by simp; omega) (by omega) (by simp)).mono ?_
    rintro e w1 ⟨v1, rfl, ho1, hb1, ht1⟩
    rw [HE1.out] at ho1
    have HA := hide (ht1 _ _ _ _ (by decide) (box_old (box_new w (.int .i64 1) (.int .i64 N) (.string S) 25) (by simp) (.cells #[.int .i64 1] 3)))
    have hB1 : Below base w w1 := (((Below.refl base w).alloc hbase _).alloc (by simp; omega) _).trans hb1
    have hz1 : base ≤ w1.heap.size := Nat.le_trans hbase hB1.size
    clear hb1 ht1 hown
    obtain ⟨a0, a1, a2, -, -, -⟩ := box_cell HA.out
    clear HA
    go_wp2_with fail
    refine (putNums_one _ _ base w1.heap.size N E _ (ho1.alloc _) (by simp; omega) (by omega) (by simp)).mono ?_
    rintro e w2 ⟨v2, rfl, ho2, hb2, -⟩
    rw [HJ.out] at ho2
    have hB2 : Below base w w2 := (hB1.alloc hz1 _).trans hb2
    clear hb2 ho1 a0 a1 a2
    go_wp2
    go_ret
    exact ⟨_, rfl, ho2, hB2⟩
  · have HE := hide (encV_text N S hK)
    have hk : (K == 1) = false := by simpa using hK
    clear hK
    obtain ⟨E, HE1⟩ : ∃ E, Hid (bs ++ encN K = E) := ⟨_, rfl⟩
    have hE : E.length ≤ bs.length + 6 := by rw [← HE1.out]; simp; omega
    have HJ : Hid (E ++ encT S = bs ++ encV K N S) := by unfold Hid; rw [← HE1.out, HE.out, List.append_assoc]
    clear HE hl
    go_enter Tryd.func27, Tryd.ntmps27
    go_wp2_with fail
    refine (putNums_one _ len base (w.heap.size + 1) K bs _ ((hown.alloc _).alloc _) (by simp; omega) (by omega) (by simp)).mono ?_
    rintro e w1 ⟨v1, rfl, ho1, hb1, ht1⟩
    rw [HE1.out] at ho1
    have HA := hide (ht1 _ _ _ _ (by decide) (box_old (box_new w (.int .i64 K) (.int .i64 N) (.string S) 25) (by simp) (.cells #[.int .i64 K] 3)))
    have hB1 : Below base w w1 := (((Below.refl base w).alloc hbase _).alloc (by simp; omega) _).trans hb1
    have hz1 : base ≤ w1.heap.size := Nat.le_trans hbase hB1.size
    clear hb1 ht1 hown
    obtain ⟨a0, a1, a2, -, -, -⟩ := box_cell HA.out
    clear HA
    go_wp2_with fail
    refine (addText_any _ _ base S E _ ho1 hz1 (by omega) hs).mono ?_
    rintro e w2 ⟨v2, rfl, ho2, hb2, -⟩
    rw [HJ.out] at ho2
    have hB2 : Below base w w2 := hB1.trans hb2
    clear hb2 ho1 a0 a1 a2
    go_wp2
    go_ret
    exact ⟨_, rfl, ho2, hB2⟩

theorem copyWithRoom_b (a : Option Addr) (cap room B : Nat) (r : Int) (bs : List UInt8) (w : World) (hr : Rd w a bs) (hn : bs.length ≤ 33554432) (hm : room ≤ 33554432) (h : r = (room : Int)) (hB : w.heap.size = B) :
    Calls Tryd.prog 28 #[.slice a bs.length cap, .int .i64 r] w fun e w' =>
      ∃ v, e = .returned v ∧ w'.ownsRow B 5 1 v bs.length (vals bs) ∧ Below B w w' ∧ B ≤ w'.heap.size := by
  subst h hB
  exact (copyWithRoom_any a cap room bs w hr hn hm).mono fun e w' h => ⟨_, h.1, h.2.1, h.2.2, h.2.2.size⟩

set_option maxHeartbeats 1600000 in
theorem implPutVal_any (a : Option Addr) (cap : Nat) (K N : Int) (S : ByteArray) (bs : List UInt8) (w : World) (hr : Rd w a bs) (hn : bs.length ≤ 1048580) (hs : S.size ≤ 1048580) :
    Calls Tryd.prog 11 #[.slice a bs.length cap, .agg #[.int .i64 K, .int .i64 N, .string S]] w fun e w' =>
      ∃ v, e = .returned v ∧ w'.ownsRow w.heap.size 5 1 v (bs ++ encV K N S).length (vals (bs ++ encV K N S)) ∧ Below w.heap.size w w' := by
  have hr1 : Rd (w.alloc (.cells #[.int .i64 K, .int .i64 N, .string S] 25)) a bs := hr.below ((Below.refl _ _).alloc (Nat.le_refl _) _)
  go_enter Tryd.func11, Tryd.ntmps11
  go_wp2_with fail
  go_region_held3 (fun w' => w'.cell? ⟨w.heap.size, 0, none⟩ = some (.int .i64 K) ∧ w'.cell? ⟨w.heap.size, 1, none⟩ = some (.int .i64 N) ∧ w'.cell? ⟨w.heap.size, 2, none⟩ = some (.string S)) (go_keep)
    (first | (go_at_call 28; refine (copyWithRoom_b a cap (10 + S.size) (w.heap.size + 1) _ bs _ ?_ (by omega) (by omega) (by rw [IntKind.wrap_i64]; omega) (by simp)).mono ?_; exact hr1; rintro e w1 ⟨v1, rfl, ho1, hb1, hz1⟩; have hc1 := bcellB hb1) | (go_at_call 27; refine (addVal_any v1 bs.length (w.heap.size + 1) K N S bs _ ?_ ?_ (by omega) hs).mono ?_; exact ho1; exact hz1; rintro e w2 ⟨v2, rfl, ho2, hb2⟩; have hc2 := bcellB hb2))
  have hB1 : Below w.heap.size w w1 := (((Below.refl w.heap.size w).alloc (Nat.le_refl _) _).drew).trans (hb1.mono (by omega))
  have hB2 : Below w.heap.size w w2 := hB1.trans (hb2.mono (by omega))
  have HO := hide (ownsRow_base ho2 (show w.heap.size ≤ w.heap.size + 1 by omega))
  clear hc1 hc2 ho2 ho1 hb1 hb2
  go_wp2
  go_ret
  exact ⟨_, rfl, HO.out, hB2⟩
end Go.Proofs.YtofdbnkeddcdjaaDoor
/-
  What the tested reader of numbers answers: numR, in the world as it was.
-/
namespace Go.Proofs.YtofdbnkeddcdjaaDoor
open Go.RowKit
set_option linter.unusedVariables false

set_option maxHeartbeats 400000 in
theorem unfoldSign_any (M : Nat) (w : World) (h : M ≤ 2000000000) :
    Calls Tryd.prog 46 #[.int .i64 (M : Int)] w fun e w' => e = .returned (.int .i64 (unfN M)) ∧ w' = w := by
  by_cases hodd : M % 2 = 1
  · have h1 : (((M : Int) % 2) == 1) = true := by simp; omega
    have HU := hide (unfN_odd hodd)
    clear hodd
    go_enter Tryd.func46, Tryd.ntmps46
    go_wp2
    go_ret
    exact ⟨ret_int (by
      have HO : (M : Int) % 2 = 1 := by simpa using h1
      rw [HU.out, Int.tdiv_eq_ediv_of_nonneg (by omega), IntWalk.wrap64_in _ (by omega)]
      omega), rfl⟩
  · have h1 : (((M : Int) % 2) == 1) = false := by simp; omega
    have HU := hide (unfN_even hodd)
    clear hodd
    go_enter Tryd.func46, Tryd.ntmps46
    go_wp2
    go_ret
    exact ⟨ret_int (by rw [HU.out]), rfl⟩

set_option maxHeartbeats 1600000 in
theorem getGroups_in (b off cap A n : Nat) (bs : List UInt8) (w : World) (hc : ∀ i, i < bs.length → w.cell? ⟨b, off + i, none⟩ = some (.int .u8 (byteAt bs i))) (hl : n = bs.length) (hn : n ≤ 1048580) (hcap : n ≤ cap) (hA : A < n) :
    Calls Tryd.prog 45 #[.slice (some ⟨b, off, none⟩) n cap, .int .i64 (A : Int)] w fun e w' =>
      e = .returned (.tuple #[.int .i64 (grpR bs A).1, .int .i64 (grpR bs A).2.1, .bool (grpR bs A).2.2]) ∧ w' = w := by
  have HN := hide hl
  have HC := hide hc
  clear hl hc
  by_cases h5 : A + 5 < n
  all_goals
    go_enter Tryd.func45, Tryd.ntmps45
    go_wp2
    go_loop [7, 27] (fun m i => ∃ k : Nat, k ≤ 5 ∧ A + k ≤ n ∧ i = .int .i64 k ∧ m = .int .i64 (accN bs A k : Nat) ∧ scanN bs A 5 0 = scanN bs A (5 - k) k) (fun _ i => 5 - (intOf i).toNat)
    case atStart => exact ⟨0, Nat.zero_le _, by omega, rfl, rfl, rfl⟩
    case round =>
      obtain ⟨k, hk, hkn, rfl, rfl, hs⟩ := hrel
      have HS := hide hs
      clear hs
      have hm := accN_lt bs A k
      have hp := pow128_le hk
      have HM : Hid (accN bs A (k + 1) = accN bs A k + (byteAt bs (A + k)).toNat % 128 * 128 ^ k) := rfl
      by_cases hin : k < 5 ∧ A + k < n
      · obtain ⟨hk5, hlt⟩ := hin
        have h1 : w.cell? ⟨b, off + A + k, none⟩ = some (.int .u8 (byteAt bs (A + k))) := by rw [Nat.add_assoc]; exact HC.out _ (by rw [← HN.out]; exact hlt)
        have x1 := byteAt_lo bs (A + k)
        have x2 := byteAt_hi bs (A + k)
        have HX : Hid ((byteAt bs (A + k) < 128 → grpR bs A = (((accN bs A (k + 1) : Nat) : Int), (A : Int) + k + 1, k == 0 || byteAt bs (A + k) != 0)) ∧
            (¬ byteAt bs (A + k) < 128 → scanN bs A (5 - k) k = scanN bs A (5 - (k + 1)) (k + 1))) :=
          ⟨fun h => grpR_some (HS.out.trans (scanN_last hk5 (by rw [← HN.out]; exact hlt) h)), fun h => scanN_more hk5 (by rw [← HN.out]; exact hlt) h⟩
        generalize byteAt bs (A + k) = c at h1 x1 x2 HM HX ⊢
        generalize accN bs A k = m at hm HM ⊢
        have hor := or_step hm hk5 x1 x2
        rw [← HM.out] at hor
        have hM := accN_lt bs A (k + 1)
        have hP := pow128_le (k := k + 1) (by omega)
        obtain ⟨M, HE⟩ : ∃ M, Hid (accN bs A (k + 1) = M) := ⟨_, rfl⟩
        rw [HE.out] at hor hM HX
        clear HM
        have h127 := u8_and127 c x1 x2
        by_cases hbig : c < 128
        · have HF := hide (HX.out.1 hbig)
          clear HX
          by_cases hk0 : 0 < k
          · have hk1 : ((k : Int) == 0) = false := by simp; omega
            have hk2 : (k == 0) = false := by simp; omega
            cases hq : (c != 0)
            · have HG : Hid (grpR bs A = ((M : Int), (A : Int) + k + 1, false)) := by
                unfold Hid; rw [HF.out, hq, hk2]; rfl
              clear HF hk2
              go_wp2
              go_ret3
              exact ⟨ret_grp HG.out, rfl⟩
            · have HG : Hid (grpR bs A = ((M : Int), (A : Int) + k + 1, true)) := by
                unfold Hid; rw [HF.out, hq, hk2]; rfl
              clear HF hk2
              go_wp2
              go_ret3
              exact ⟨ret_grp HG.out, rfl⟩
          · have HG : Hid (grpR bs A = ((M : Int), (A : Int) + 1, true)) := by
              unfold Hid
              obtain rfl : k = 0 := by omega
              rw [HF.out]; simp
            clear HF
            go_wp2
            go_ret3
            exact ⟨ret_grp HG.out, rfl⟩
        · go_wp2
          go_round
          case rel => exact ⟨k + 1, by omega, by omega, by go_num, by rw [HE.out], HS.out.trans (HX.out.2 (by omega))⟩
          case measure => simp [intOf]; omega
      · have HR := hide (grpR_none (HS.out.trans (by
          by_cases hk5 : k < 5
          · exact scanN_end hk5 (by rw [← HN.out]; omega)
          · rw [show k = 5 by omega]; rfl)))
        go_wp2
        go_ret3
        exact ⟨ret_grp HR.out, rfl⟩

set_option maxHeartbeats 1600000 in
theorem getGroups_out (a : Option Addr) (cap n : Nat) (x : Int) (w : World) (hn : n ≤ 1048580) (hx : x < 0 ∨ (n : Int) < x) :
    Calls Tryd.prog 45 #[.slice a n cap, .int .i64 x] w fun e w' => e = .returned (.tuple #[.int .i64 0, .int .i64 0, .bool false]) ∧ w' = w := by
  by_cases h0 : 0 ≤ x
  all_goals
    go_enter Tryd.func45, Tryd.ntmps45
    go_wp2
    go_ret3
    exact ⟨rfl, rfl⟩

set_option maxHeartbeats 1600000 in
theorem getGroups_end (a : Option Addr) (cap n : Nat) (w : World) (hn : n ≤ 1048580) (hcap : n ≤ cap) (ha : a = none → n = 0 ∧ cap = 0) :
    Calls Tryd.prog 45 #[.slice a n cap, .int .i64 (n : Int)] w fun e w' => e = .returned (.tuple #[.int .i64 0, .int .i64 0, .bool false]) ∧ w' = w := by
  cases a with
  | none =>
    obtain ⟨rfl, rfl⟩ := ha rfl
    go_enter Tryd.func45, Tryd.ntmps45
    go_wp2
    refine wp_loop_rounds 1 ?_
    rw [rounds_succ]
    go_wp2
    go_ret3
    exact ⟨rfl, rfl⟩
  | some p =>
    go_enter Tryd.func45, Tryd.ntmps45
    go_wp2
    all_goals
      refine wp_loop_rounds 1 ?_
      rw [rounds_succ]
      go_wp2
      go_ret3
      exact ⟨rfl, rfl⟩

theorem ret_none {bs : List UInt8} {x : Int} (h : numR bs x = (0, 0, false)) :
    Ending.returned (.tuple #[.int .i64 0, .int .i64 0, .bool false]) = .returned (.tuple #[.int .i64 (numR bs x).1, .int .i64 (numR bs x).2.1, .bool (numR bs x).2.2]) := by rw [h]

set_option maxHeartbeats 1600000 in
theorem implGetNum_any (a : Option Addr) (cap : Nat) (x : Int) (bs : List UInt8) (w : World) (hr : Rd w a bs) (hn : bs.length ≤ 1048580) (hcap : bs.length ≤ cap) (ha : a = none → bs.length = 0 ∧ cap = 0) :
    Calls Tryd.prog 25 #[.slice a bs.length cap, .int .i64 x] w fun e w' =>
      e = .returned (.tuple #[.int .i64 (numR bs x).1, .int .i64 (numR bs x).2.1, .bool (numR bs x).2.2]) ∧ w' = w := by
  by_cases h0 : x < 0 ∨ (bs.length : Int) < x
  · have HR : Hid (numR bs x = (0, 0, false)) := by
      rcases h0 with h | h
      · exact numR_neg h
      · exact numR_past (by omega)
    go_enter Tryd.func25, Tryd.ntmps25
    go_wp2_with fail
    refine (getGroups_out a cap bs.length x w hn h0).mono ?_
    rintro e w' ⟨rfl, rfl⟩
    go_wp2
    go_ret3
    exact ⟨ret_none HR.out, rfl⟩
  · by_cases h1 : x = bs.length
    · have HR : Hid (numR bs x = (0, 0, false)) := numR_past (by omega)
      subst h1
      go_enter Tryd.func25, Tryd.ntmps25
      go_wp2_with fail
      refine (getGroups_end a cap bs.length w hn hcap ha).mono ?_
      rintro e w' ⟨rfl, rfl⟩
      go_wp2
      go_ret3
      exact ⟨ret_none HR.out, rfl⟩
    · obtain ⟨A, rfl⟩ := Int.eq_ofNat_of_zero_le (show 0 ≤ x by omega)
      obtain ⟨b, off, rfl, _, hc⟩ := hr.open (by omega)
      obtain ⟨M, hM, hg, hnr⟩ := numR_grp bs A
      have HC := getGroups_in b off cap A bs.length bs w hc rfl hn hcap (by omega)
      have HN := hide hnr
      clear hnr hc
      rw [hg] at HC
      generalize (grpR bs A).2.1 = y at HC HN
      generalize (grpR bs A).2.2 = z at HC HN
      clear hg
      cases z with
      | false =>
        have HR := hide (HN.out.trans (if_pos (Or.inl rfl)))
        go_enter Tryd.func25, Tryd.ntmps25
        go_wp2_with fail
        refine HC.mono ?_
        rintro e w' ⟨rfl, rfl⟩
        go_wp2
        go_ret3
        exact ⟨ret_none HR.out, rfl⟩
      | true =>
        by_cases hbg : 2000000000 < M
        · have HR := hide (HN.out.trans (if_pos (Or.inr hbg)))
          go_enter Tryd.func25, Tryd.ntmps25
          go_wp2_with fail
          refine HC.mono ?_
          rintro e w' ⟨rfl, rfl⟩
          go_wp2
          go_ret3
          exact ⟨ret_none HR.out, rfl⟩
        · have HR := hide (HN.out.trans (if_neg (fun h => by rcases h with h | h; exact Bool.noConfusion h; omega)))
          go_enter Tryd.func25, Tryd.ntmps25
          go_wp2_with fail
          refine HC.mono ?_
          rintro e w' ⟨rfl, rfl⟩
          go_wp2_with (go_at_call 46; refine (unfoldSign_any _ _ (by omega)).mono ?_; rintro e w' ⟨rfl, rfl⟩)
          go_ret3
          exact ⟨ret_num HR.out, rfl⟩
end Go.Proofs.YtofdbnkeddcdjaaDoor
/-
  What the tested reader of texts answers: textR, in the world as it was.
-/
namespace Go.Proofs.YtofdbnkeddcdjaaDoor
open Go.RowKit
set_option linter.unusedVariables false

set_option maxHeartbeats 1600000 in
theorem implGetText_any (a : Option Addr) (cap : Nat) (x : Int) (bs : List UInt8) (w : World) (hr : Rd w a bs) (hn : bs.length ≤ 1048580) (hcap : bs.length ≤ cap) (ha : a = none → bs.length = 0 ∧ cap = 0) :
    Calls Tryd.prog 26 #[.slice a bs.length cap, .int .i64 x] w fun e w' =>
      e = .returned (.tuple #[.string (textR bs x).1, .int .i64 (textR bs x).2.1, .bool (textR bs x).2.2]) ∧ w' = w := by
  have HC := implGetNum_any a cap x bs w hr hn hcap ha
  have HT := hide (@numR_true bs x)
  have HNo := hide (@textR_no bs x)
  have HYes := hide (textR_yes bs x)
  generalize (numR bs x).1 = r1 at HC HT HNo HYes
  generalize (numR bs x).2.1 = r2 at HC HT HNo HYes
  generalize (numR bs x).2.2 = r3 at HC HT HNo HYes
  cases r3 with
  | false =>
    have HR := hide (HNo.out (Or.inl rfl))
    go_enter Tryd.func26, Tryd.ntmps26
    go_wp2_with fail
    refine HC.mono ?_
    rintro e w' ⟨rfl, rfl⟩
    go_wp2
    go_ret3
    exact ⟨ret_text HR.out, rfl⟩
  | true =>
    obtain ⟨hx0, hx1, hx2⟩ := HT.out rfl
    by_cases hneg : r1 < 0
    · have HR := hide (HNo.out (Or.inr (Or.inl hneg)))
      go_enter Tryd.func26, Tryd.ntmps26
      go_wp2_with fail
      refine HC.mono ?_
      rintro e w' ⟨rfl, rfl⟩
      go_wp2
      go_ret3
      exact ⟨ret_text HR.out, rfl⟩
    · by_cases hbig : (bs.length : Int) - r2 < r1
      · have HR := hide (HNo.out (Or.inr (Or.inr hbig)))
        go_enter Tryd.func26, Tryd.ntmps26
        go_wp2_with fail
        refine HC.mono ?_
        rintro e w' ⟨rfl, rfl⟩
        go_wp2
        go_ret3
        exact ⟨ret_text HR.out, rfl⟩
      · obtain ⟨P, rfl⟩ := Int.eq_ofNat_of_zero_le (show 0 ≤ r2 by omega)
        obtain ⟨N, rfl⟩ := Int.eq_ofNat_of_zero_le (show 0 ≤ r1 by omega)
        have HR := hide (HYes.out P N (fun h => by rcases h with h | h | h; exact Bool.noConfusion h; exact hneg h; exact hbig h) rfl rfl)
        have hPN : P + N ≤ bs.length := by omega
        obtain ⟨b, off, rfl, _, hc⟩ := hr.open (by omega)
        have HCL := hide hc
        clear hc HNo HYes HT
        by_cases hend : P < cap
        · have hcv : ∀ c', (convert 22 9 (.slice (some ⟨b, off + P, none⟩) N c')).run Tryd.prog w = .ok (.string ⟨((bs.drop P).take N).toArray⟩) w := by
            intro c'
            exact conv_part (by omega) HCL.out c'
          generalize ((bs.drop P).take N).toArray = S at hcv HR
          go_enter Tryd.func26, Tryd.ntmps26
          go_wp2_with fail
          refine HC.mono ?_
          rintro e w' ⟨rfl, rfl⟩
          go_wp2
          go_ret3
          exact ⟨ret_text HR.out, rfl⟩
        · obtain rfl : N = 0 := by omega
          have hcv : ∀ c', (convert 22 9 (.slice (some ⟨b, off, none⟩) 0 c')).run Tryd.prog w = .ok (.string ⟨#[]⟩) w := by
            intro c'
            exact conv_part (bs := bs) (P := 0) (N := 0) (by omega) HCL.out c'
          go_enter Tryd.func26, Tryd.ntmps26
          go_wp2_with fail
          refine HC.mono ?_
          rintro e w' ⟨rfl, rfl⟩
          go_wp2
          go_ret3
          exact ⟨ret_text (by rw [HR.out]; simp), rfl⟩
end Go.Proofs.YtofdbnkeddcdjaaDoor
/-
  What the tested reader of values answers: valR; nothing that was there has turned.
-/
namespace Go.Proofs.YtofdbnkeddcdjaaDoor
open Go.RowKit
set_option linter.unusedVariables false

set_option maxHeartbeats 1600000 in
theorem implGetVal_any (a : Option Addr) (cap : Nat) (x : Int) (bs : List UInt8) (w : World) (hr : Rd w a bs) (hn : bs.length ≤ 1048580) (hcap : bs.length ≤ cap) (ha : a = none → bs.length = 0 ∧ cap = 0) :
    Calls Tryd.prog 10 #[.slice a bs.length cap, .int .i64 x] w fun e w' =>
      e = .returned (valT (valR bs x)) ∧ Below w.heap.size w w' := by
  have hr1 : ∀ o, Rd (w.alloc o) a bs := fun o => hr.below ((Below.refl _ _).alloc (Nat.le_refl _) _)
  have hr2 : ∀ o o', Rd ((w.alloc o).alloc o') a bs := fun o o' => (hr1 o).below ((Below.refl _ _).alloc (Nat.le_refl _) _)
  have HR1 := hide hr1
  have HR2 := hide hr2
  clear hr1 hr2 hr
  cases hok : (numR bs x).2.2
  · have HV := hide (valR_no hok)
    have HN := hide (numR_false hok)
    clear hok
    go_enter Tryd.func10, Tryd.ntmps10
    go_wp2_with fail
    refine (implGetNum_any a cap x bs _ (HR1.out _) hn hcap ha).mono ?_
    rw [HN.out]
    rintro e w1 ⟨rfl, rfl⟩
    go_wp2
    go_returns
    exact ⟨ret_val HV.out, by go_grown⟩
  · obtain ⟨k, p, hkp⟩ : ∃ k p, numR bs x = (k, p, true) := ⟨(numR bs x).1, (numR bs x).2.1, Prod.ext rfl (Prod.ext rfl hok)⟩
    clear hok
    by_cases hk : k = 1
    · subst hk
      obtain ⟨n, q, b, h2⟩ : ∃ n q b, numR bs p = (n, q, b) := ⟨_, _, _, rfl⟩
      have HV := hide (valR_num hkp h2)
      have HN := hide hkp
      have HN2 := hide h2
      clear hkp h2
      go_enter Tryd.func10, Tryd.ntmps10
      go_wp2_with fail
      refine (implGetNum_any a cap x bs _ (HR1.out _) hn hcap ha).mono ?_
      rw [HN.out]
      rintro e w1 ⟨rfl, rfl⟩
      go_wp2_with fail
      refine (implGetNum_any a cap p bs _ (HR2.out _ _) hn hcap ha).mono ?_
      rw [HN2.out]
      rintro e w1 ⟨rfl, rfl⟩
      have hs0 : (ByteArray.mk #[]).size = 0 := rfl
      cases b
      · have HV2 : Hid (valR bs x = (0, 0, ⟨#[]⟩, 0, false)) := by unfold Hid; rw [HV.out]; rfl
        clear HV
        go_wp2
        go_returns
        exact ⟨ret_val HV2.out, by go_grown⟩
      · skip
        go_wp2_with fail
        refine (implValOk_any 1 n ⟨#[]⟩ _ (by decide)).mono ?_
        rintro e w1 ⟨rfl, hb⟩
        have HR := hide (box_below (box_old (box_new w (.int .i64 0) (.int .i64 0) (.string ⟨#[]⟩) 25) (by simp) (.cells #[.int .i64 1, .int .i64 n, .string ⟨#[]⟩] 25)) hb (by simp; omega))
        have HB := hide (box_below (box_new (w.alloc (.cells #[.int .i64 0, .int .i64 0, .string ⟨#[]⟩] 25)) (.int .i64 1) (.int .i64 n) (.string ⟨#[]⟩) 25) hb (by simp))
        have hB1 : Below w.heap.size w w1 := (((Below.refl w.heap.size w).alloc (Nat.le_refl _) _).alloc (by simp) _).trans (hb.mono (by simp; omega))
        simp only [World.size_alloc] at HR HB
        clear hb
        cases hv : valB 1 n ⟨#[]⟩
        · have HV2 : Hid (valR bs x = (0, 0, ⟨#[]⟩, 0, false)) := by unfold Hid; rw [HV.out, hv]; rfl
          clear HV hv
          obtain ⟨c0, c1, c2, f0, f1, f2⟩ := box_cell HR.out
          go_wp2
          refine box_post HR.out (fun w4 h4 gr => ?_)
          clear c0 c1 c2 f0 f1 f2
          obtain ⟨c0, c1, c2, -, -, -⟩ := box_cell h4
          refine bodyPost_ret (v := valT (0, 0, ⟨#[]⟩, 0, false)) (by simp [results, Tryd.results10, go_sem, c0, c1, c2, valT]) rfl ⟨ret_val HV2.out, below_set hB1 gr (by omega)⟩
        · have HV2 : Hid (valR bs x = (1, n, ⟨#[]⟩, q, true)) := by unfold Hid; rw [HV.out, hv]; rfl
          clear HV hv
          obtain ⟨c0, c1, c2, f0, f1, f2⟩ := box_cell HR.out
          obtain ⟨d0, d1, d2, -, -, -⟩ := box_cell HB.out
          go_wp2
          refine box_post HR.out (fun w4 h4 gr => ?_)
          clear c0 c1 c2 f0 f1 f2
          obtain ⟨c0, c1, c2, -, -, -⟩ := box_cell h4
          refine bodyPost_ret (v := valT (1, n, ⟨#[]⟩, q, true)) (by simp [results, Tryd.results10, go_sem, c0, c1, c2, valT]) rfl ⟨ret_val HV2.out, below_set hB1 gr (by omega)⟩
    · obtain ⟨s, q, b, h2⟩ : ∃ s q b, textR bs p = (s, q, b) := ⟨_, _, _, rfl⟩
      have hs : s.size ≤ bs.length := by have := textR_size bs p; rw [h2] at this; exact this
      have HV := hide (valR_text hkp hk h2)
      have HN := hide hkp
      have HN2 := hide h2
      have hk1 : (k == 1) = false := by simpa using hk
      clear hkp h2 hk
      go_enter Tryd.func10, Tryd.ntmps10
      go_wp2_with fail
      refine (implGetNum_any a cap x bs _ (HR1.out _) hn hcap ha).mono ?_
      rw [HN.out]
      rintro e w1 ⟨rfl, rfl⟩
      go_wp2_with fail
      refine (implGetText_any a cap p bs _ (HR2.out _ _) hn hcap ha).mono ?_
      rw [HN2.out]
      rintro e w1 ⟨rfl, rfl⟩
      cases b
      · have HV2 : Hid (valR bs x = (0, 0, ⟨#[]⟩, 0, false)) := by unfold Hid; rw [HV.out]; rfl
        clear HV
        go_wp2
        go_returns
        exact ⟨ret_val HV2.out, by go_grown⟩
      · skip
        go_wp2_with fail
        refine (implValOk_any k 0 s _ (by unfold maxLen; omega)).mono ?_
        rintro e w1 ⟨rfl, hb⟩
        have HR := hide (box_below (box_old (box_new w (.int .i64 0) (.int .i64 0) (.string ⟨#[]⟩) 25) (by simp) (.cells #[.int .i64 k, .int .i64 0, .string s] 25)) hb (by simp; omega))
        have HB := hide (box_below (box_new (w.alloc (.cells #[.int .i64 0, .int .i64 0, .string ⟨#[]⟩] 25)) (.int .i64 k) (.int .i64 0) (.string s) 25) hb (by simp))
        have hB1 : Below w.heap.size w w1 := (((Below.refl w.heap.size w).alloc (Nat.le_refl _) _).alloc (by simp) _).trans (hb.mono (by simp; omega))
        simp only [World.size_alloc] at HR HB
        clear hb
        cases hv : valB k 0 s
        · have HV2 : Hid (valR bs x = (0, 0, ⟨#[]⟩, 0, false)) := by unfold Hid; rw [HV.out, hv]; rfl
          clear HV hv
          obtain ⟨c0, c1, c2, f0, f1, f2⟩ := box_cell HR.out
          go_wp2
          refine box_post HR.out (fun w4 h4 gr => ?_)
          clear c0 c1 c2 f0 f1 f2
          obtain ⟨c0, c1, c2, -, -, -⟩ := box_cell h4
          refine bodyPost_ret (v := valT (0, 0, ⟨#[]⟩, 0, false)) (by simp [results, Tryd.results10, go_sem, c0, c1, c2, valT]) rfl ⟨ret_val HV2.out, below_set hB1 gr (by omega)⟩
        · have HV2 : Hid (valR bs x = (k, 0, s, q, true)) := by unfold Hid; rw [HV.out, hv]; rfl
          clear HV hv
          obtain ⟨c0, c1, c2, f0, f1, f2⟩ := box_cell HR.out
          obtain ⟨d0, d1, d2, -, -, -⟩ := box_cell HB.out
          go_wp2
          refine box_post HR.out (fun w4 h4 gr => ?_)
          clear c0 c1 c2 f0 f1 f2
          obtain ⟨c0, c1, c2, -, -, -⟩ := box_cell h4
          refine bodyPost_ret (v := valT (k, 0, s, q, true)) (by simp [results, Tryd.results10, go_sem, c0, c1, c2, valT]) rfl ⟨ret_val HV2.out, below_set hB1 gr (by omega)⟩
end Go.Proofs.YtofdbnkeddcdjaaDoor
/-
  What the readers of numbers answer, the tested one and the model alike: numR, in the world as it was.
-/
namespace Go.Proofs.YtofdbnkeddcdjaaDoor
open Go.RowKit
set_option linter.unusedVariables false

set_option maxHeartbeats 1600000 in
theorem specGetNum_in (b off cap A n : Nat) (bs : List UInt8) (w : World) (hc : ∀ i, i < bs.length → w.cell? ⟨b, off + i, none⟩ = some (.int .u8 (byteAt bs i))) (hl : n = bs.length) (hn : n ≤ 1048580) (hA : A < n) :
    Calls Tryd.prog 39 #[.slice (some ⟨b, off, none⟩) n cap, .int .i64 (A : Int)] w fun e w' =>
      e = .returned (.tuple #[.int .i64 (numR bs A).1, .int .i64 (numR bs A).2.1, .bool (numR bs A).2.2]) ∧ w' = w := by
  have HN := hide hl
  have HC := hide hc
  clear hl hc
  go_enter Tryd.func39, Tryd.ntmps39
  go_wp2
  go_loop [7, 8] (fun m i => ∃ k : Nat, k ≤ 5 ∧ i = .int .i64 k ∧ m = .int .i64 (accN bs A k : Nat) ∧ scanN bs A 5 0 = scanN bs A (5 - k) k) (fun _ i => 5 - (intOf i).toNat)
  case atStart => exact ⟨0, Nat.zero_le _, rfl, rfl, rfl⟩
  case round =>
    obtain ⟨k, hk, rfl, rfl, hs⟩ := hrel
    have HS := hide hs
    clear hs
    have hm := accN_lt bs A k
    have hp := pow128_le hk
    have HM : Hid (accN bs A (k + 1) = accN bs A k + (byteAt bs (A + k)).toNat % 128 * 128 ^ k) := rfl
    by_cases h5 : k < 5
    · by_cases hlt : A + k < n
      · have h1 : w.cell? ⟨b, off + (A + k), none⟩ = some (.int .u8 (byteAt bs (A + k))) := HC.out _ (by rw [← HN.out]; exact hlt)
        have x1 := byteAt_lo bs (A + k)
        have x2 := byteAt_hi bs (A + k)
        have HX : Hid ((byteAt bs (A + k) < 128 → numR bs (A : Int) = if (k ≠ 0 ∧ byteAt bs (A + k) = 0) ∨ 2000000000 < accN bs A (k + 1) then (0, 0, false) else (unfN (accN bs A (k + 1)), (A : Int) + k + 1, true)) ∧
            (¬ byteAt bs (A + k) < 128 → scanN bs A (5 - k) k = scanN bs A (5 - (k + 1)) (k + 1))) :=
          ⟨fun h => numR_some (HS.out.trans (scanN_last h5 (by rw [← HN.out]; exact hlt) h)), fun h => scanN_more h5 (by rw [← HN.out]; exact hlt) h⟩
        generalize byteAt bs (A + k) = c at h1 x1 x2 HM HX ⊢
        generalize accN bs A k = m at hm HM ⊢
        have hor := or_step hm h5 x1 x2
        rw [← HM.out] at hor
        have hM := accN_lt bs A (k + 1)
        have hP := pow128_le (k := k + 1) (by omega)
        obtain ⟨M, HE⟩ : ∃ M, Hid (accN bs A (k + 1) = M) := ⟨_, rfl⟩
        rw [HE.out] at hor hM HX
        clear HM
        have h127 := i64_and127 c
        by_cases hbig : 127 < c
        · go_wp2
          go_round
          case rel => exact ⟨k + 1, by omega, by go_num, by rw [HE.out], HS.out.trans (HX.out.2 (by omega))⟩
          case measure => simp [intOf]; omega
        · have HF := hide (HX.out.1 (by omega))
          clear HX
          have hA0 := i64_and_nat M 1 (by omega) (by omega)
          rw [Nat.and_one_is_mod] at hA0
          have hUI := unfN_in M
          by_cases hodd : M % 2 = 1
          · have hA : bits .and .i64 (M : Int) 1 = 1 := by rw [hodd] at hA0; exact hA0
            have HU := hide (unfN_odd hodd)
            rw [HU.out] at hUI HF
            clear hA0 hodd
            by_cases hz : 0 < k ∧ c ≤ 0
            · obtain ⟨hz1, hz2⟩ := hz
              have HG := hide (HF.out.trans (if_pos (Or.inl ⟨by omega, by omega⟩)))
              clear hUI
              go_wp2
              go_ret3
              exact ⟨ret_num HG.out, rfl⟩
            · by_cases hbg : 2000000000 < M
              · have hI : inB (-((M : Int) / 2) - 1) (-1000000000) 1000000000 = false := by rw [hUI]; simp [hbg]
                have HG := hide (HF.out.trans (if_pos (Or.inr hbg)))
                clear hUI
                by_cases hk0 : 0 < k
                all_goals
                  go_wp2_with (first | (go_at_call 23; refine (l1In_any _ _ _ _).mono ?_; rintro e w' ⟨rfl, rfl⟩))
                  go_ret3
                  exact ⟨ret_num HG.out, rfl⟩
              · have hI : inB (-((M : Int) / 2) - 1) (-1000000000) 1000000000 = true := by rw [hUI]; simp [hbg]
                have HG := hide (HF.out.trans (if_neg (fun h => by rcases h with ⟨h, h'⟩ | h <;> omega)))
                clear hUI
                by_cases hk0 : 0 < k
                all_goals
                  go_wp2_with (first | (go_at_call 23; refine (l1In_any _ _ _ _).mono ?_; rintro e w' ⟨rfl, rfl⟩))
                  go_ret3
                  exact ⟨ret_num HG.out, rfl⟩
          · have hA : bits .and .i64 (M : Int) 1 = 0 := by rw [show M % 2 = 0 by omega] at hA0; exact hA0
            have HU := hide (unfN_even hodd)
            rw [HU.out] at hUI HF
            clear hA0 hodd
            by_cases hz : 0 < k ∧ c ≤ 0
            · obtain ⟨hz1, hz2⟩ := hz
              have HG := hide (HF.out.trans (if_pos (Or.inl ⟨by omega, by omega⟩)))
              clear hUI
              go_wp2
              go_ret3
              exact ⟨ret_num HG.out, rfl⟩
            · by_cases hbg : 2000000000 < M
              · have hI : inB ((M : Int) / 2) (-1000000000) 1000000000 = false := by rw [hUI]; simp [hbg]
                have HG := hide (HF.out.trans (if_pos (Or.inr hbg)))
                clear hUI
                by_cases hk0 : 0 < k
                all_goals
                  go_wp2_with (first | (go_at_call 23; refine (l1In_any _ _ _ _).mono ?_; rintro e w' ⟨rfl, rfl⟩))
                  go_ret3
                  exact ⟨ret_num HG.out, rfl⟩
              · have hI : inB ((M : Int) / 2) (-1000000000) 1000000000 = true := by rw [hUI]; simp [hbg]
                have HG := hide (HF.out.trans (if_neg (fun h => by rcases h with ⟨h, h'⟩ | h <;> omega)))
                clear hUI
                by_cases hk0 : 0 < k
                all_goals
                  go_wp2_with (first | (go_at_call 23; refine (l1In_any _ _ _ _).mono ?_; rintro e w' ⟨rfl, rfl⟩))
                  go_ret3
                  exact ⟨ret_num HG.out, rfl⟩
      · have HR := hide (numR_none (HS.out.trans (scanN_end h5 (by rw [← HN.out]; exact hlt))))
        go_wp2
        go_ret3
        exact ⟨ret_num HR.out, rfl⟩
    · obtain rfl : k = 5 := by omega
      have HR := hide (numR_none (HS.out))
      go_wp2
      go_ret3
      exact ⟨ret_num HR.out, rfl⟩

set_option maxHeartbeats 1600000 in
theorem specGetNum_out (a : Option Addr) (cap n : Nat) (x : Int) (bs : List UInt8) (w : World) (hl : n = bs.length) (hn : n ≤ 1048580) (hx : x < 0 ∨ (n : Int) ≤ x) :
    Calls Tryd.prog 39 #[.slice a n cap, .int .i64 x] w fun e w' => e = .returned (.tuple #[.int .i64 0, .int .i64 0, .bool false]) ∧ w' = w := by
  clear hl
  by_cases h0 : 0 ≤ x
  all_goals
    go_enter Tryd.func39, Tryd.ntmps39
    go_wp2
    refine wp_loop_rounds 1 ?_
    rw [rounds_succ]
    go_wp2
    go_ret3
    exact ⟨rfl, rfl⟩

theorem specGetNum_any (a : Option Addr) (cap : Nat) (x : Int) (bs : List UInt8) (w : World) (hr : Rd w a bs) (hn : bs.length ≤ 1048580) :
    Calls Tryd.prog 39 #[.slice a bs.length cap, .int .i64 x] w fun e w' =>
      e = .returned (.tuple #[.int .i64 (numR bs x).1, .int .i64 (numR bs x).2.1, .bool (numR bs x).2.2]) ∧ w' = w := by
  by_cases h0 : 0 ≤ x
  · by_cases h1 : x < bs.length
    · obtain ⟨A, rfl⟩ := Int.eq_ofNat_of_zero_le h0
      obtain ⟨b, off, rfl, _, hc⟩ := hr.open (by omega)
      exact specGetNum_in b off cap A bs.length bs w hc rfl hn (by omega)
    · rw [numR_past (by omega)]
      exact specGetNum_out a cap bs.length x bs w rfl hn (by omega)
  · rw [numR_neg (by omega)]
    exact specGetNum_out a cap bs.length x bs w rfl hn (by omega)
end Go.Proofs.YtofdbnkeddcdjaaDoor
/-
  What the model's reader of texts answers: textR, in the world as it was.
-/
namespace Go.Proofs.YtofdbnkeddcdjaaDoor
open Go.RowKit
set_option linter.unusedVariables false

set_option maxHeartbeats 1600000 in
theorem specGetText_any (a : Option Addr) (cap : Nat) (x : Int) (bs : List UInt8) (w : World) (hr : Rd w a bs) (hn : bs.length ≤ 1048580) (hcap : bs.length ≤ cap) :
    Calls Tryd.prog 40 #[.slice a bs.length cap, .int .i64 x] w fun e w' =>
      e = .returned (.tuple #[.string (textR bs x).1, .int .i64 (textR bs x).2.1, .bool (textR bs x).2.2]) ∧ w' = w := by
  have HC := specGetNum_any a cap x bs w hr hn
  have HT := hide (@numR_true bs x)
  have HNo := hide (@textR_no bs x)
  have HYes := hide (textR_yes bs x)
  generalize (numR bs x).1 = r1 at HC HT HNo HYes
  generalize (numR bs x).2.1 = r2 at HC HT HNo HYes
  generalize (numR bs x).2.2 = r3 at HC HT HNo HYes
  cases r3 with
  | false =>
    have HR := hide (HNo.out (Or.inl rfl))
    go_enter Tryd.func40, Tryd.ntmps40
    go_wp2_with fail
    refine HC.mono ?_
    rintro e w' ⟨rfl, rfl⟩
    go_wp2
    go_ret3
    exact ⟨ret_text HR.out, rfl⟩
  | true =>
    obtain ⟨hx0, hx1, hx2⟩ := HT.out rfl
    by_cases hneg : r1 < 0
    · have HR := hide (HNo.out (Or.inr (Or.inl hneg)))
      go_enter Tryd.func40, Tryd.ntmps40
      go_wp2_with fail
      refine HC.mono ?_
      rintro e w' ⟨rfl, rfl⟩
      go_wp2
      go_ret3
      exact ⟨ret_text HR.out, rfl⟩
    · by_cases hbig : (bs.length : Int) - r2 < r1
      · have HR := hide (HNo.out (Or.inr (Or.inr hbig)))
        go_enter Tryd.func40, Tryd.ntmps40
        go_wp2_with fail
        refine HC.mono ?_
        rintro e w' ⟨rfl, rfl⟩
        go_wp2
        go_ret3
        exact ⟨ret_text HR.out, rfl⟩
      · obtain ⟨P, rfl⟩ := Int.eq_ofNat_of_zero_le (show 0 ≤ r2 by omega)
        obtain ⟨N, rfl⟩ := Int.eq_ofNat_of_zero_le (show 0 ≤ r1 by omega)
        have HR := hide (HYes.out P N (fun h => by rcases h with h | h | h; exact Bool.noConfusion h; exact hneg h; exact hbig h) rfl rfl)
        have hPN : P + N ≤ bs.length := by omega
        obtain ⟨b, off, rfl, _, hc⟩ := hr.open (by omega)
        have HCL := hide hc
        clear hc HNo HYes HT
        by_cases hend : P < cap
        · have hcv : ∀ c', (convert 22 9 (.slice (some ⟨b, off + P, none⟩) N c')).run Tryd.prog w = .ok (.string ⟨((bs.drop P).take N).toArray⟩) w := by
            intro c'
            exact conv_part (by omega) HCL.out c'
          generalize ((bs.drop P).take N).toArray = S at hcv HR
          go_enter Tryd.func40, Tryd.ntmps40
          go_wp2_with fail
          refine HC.mono ?_
          rintro e w' ⟨rfl, rfl⟩
          go_wp2
          go_ret3
          exact ⟨ret_text HR.out, rfl⟩
        · obtain rfl : N = 0 := by omega
          have hcv : ∀ c', (convert 22 9 (.slice (some ⟨b, off, none⟩) 0 c')).run Tryd.prog w = .ok (.string ⟨#[]⟩) w := by
            intro c'
            exact conv_part (bs := bs) (P := 0) (N := 0) (by omega) HCL.out c'
          go_enter Tryd.func40, Tryd.ntmps40
          go_wp2_with fail
          refine HC.mono ?_
          rintro e w' ⟨rfl, rfl⟩
          go_wp2
          go_ret3
          exact ⟨ret_text (by rw [HR.out]; simp), rfl⟩

end Go.Proofs.YtofdbnkeddcdjaaDoor
/-
  What the model's reader of values answers: valR; nothing that was there has turned.
-/
namespace Go.Proofs.YtofdbnkeddcdjaaDoor
open Go.RowKit
set_option linter.unusedVariables false

theorem grown_below' {w w' : World} (h : w.grownBy w' none) : Below w.heap.size w w' := (Below.refl _ _).grown h (Nat.le_refl _) (fun k hk => by cases hk)

set_option maxHeartbeats 1600000 in
theorem specGetVal_any (a : Option Addr) (cap : Nat) (x : Int) (bs : List UInt8) (w : World) (hr : Rd w a bs) (hn : bs.length ≤ 1048580) (hcap : bs.length ≤ cap) :
    Calls Tryd.prog 16 #[.slice a bs.length cap, .int .i64 x] w fun e w' =>
      e = .returned (valT (valR bs x)) ∧ Below w.heap.size w w' := by
  have hr1 : ∀ o, Rd (w.alloc o) a bs := fun o => hr.below ((Below.refl _ _).alloc (Nat.le_refl _) _)
  have hr2 : ∀ o o', Rd ((w.alloc o).alloc o') a bs := fun o o' => (hr1 o).below ((Below.refl _ _).alloc (Nat.le_refl _) _)
  have HR1 := hide hr1
  have HR2 := hide hr2
  clear hr1 hr2 hr
  cases hok : (numR bs x).2.2
  · have HV := hide (valR_no hok)
    have HN := hide (numR_false hok)
    clear hok
    go_enter Tryd.func16, Tryd.ntmps16
    go_wp2_with fail
    refine (specGetNum_any a cap x bs _ (HR1.out _) hn).mono ?_
    rw [HN.out]
    rintro e w1 ⟨rfl, rfl⟩
    go_wp2_with fail
    refine (specGetText_any a cap 0 bs _ (HR2.out _ _) hn hcap).mono ?_
    generalize (textR bs 0).1 = s
    generalize (textR bs 0).2.1 = q
    generalize (textR bs 0).2.2 = b
    rintro e w1 ⟨rfl, rfl⟩
    go_wp2
    go_returns
    exact ⟨ret_val HV.out, by go_grown⟩
  · obtain ⟨k, p, hkp⟩ : ∃ k p, numR bs x = (k, p, true) := ⟨(numR bs x).1, (numR bs x).2.1, Prod.ext rfl (Prod.ext rfl hok)⟩
    clear hok
    by_cases hk : k = 1
    · subst hk
      obtain ⟨n, q, b, h2⟩ : ∃ n q b, numR bs p = (n, q, b) := ⟨_, _, _, rfl⟩
      have HV := hide (valR_num hkp h2)
      have HN := hide hkp
      have HN2 := hide h2
      clear hkp h2
      go_enter Tryd.func16, Tryd.ntmps16
      go_wp2_with fail
      refine (specGetNum_any a cap x bs _ (HR1.out _) hn).mono ?_
      rw [HN.out]
      rintro e w1 ⟨rfl, rfl⟩
      go_wp2_with fail
      refine (specGetNum_any a cap p bs _ (HR2.out _ _) hn).mono ?_
      rw [HN2.out]
      rintro e w1 ⟨rfl, rfl⟩
      have hs0 : (ByteArray.mk #[]).size = 0 := rfl
      cases b
      · have HV2 : Hid (valR bs x = (0, 0, ⟨#[]⟩, 0, false)) := by unfold Hid; rw [HV.out]; rfl
        clear HV
        go_wp2
        go_returns
        exact ⟨ret_val HV2.out, by go_grown⟩
      · skip
        go_wp2_with fail
        refine (specValOk_any 1 n ⟨#[]⟩ _ (by decide)).mono ?_
        rintro e w1 ⟨rfl, g1⟩
        have hb := grown_below' g1
        clear g1
        have HR := hide (box_below (box_old (box_new w (.int .i64 0) (.int .i64 0) (.string ⟨#[]⟩) 25) (by simp) (.cells #[.int .i64 1, .int .i64 n, .string ⟨#[]⟩] 25)) hb (by simp; omega))
        have HB := hide (box_below (box_new (w.alloc (.cells #[.int .i64 0, .int .i64 0, .string ⟨#[]⟩] 25)) (.int .i64 1) (.int .i64 n) (.string ⟨#[]⟩) 25) hb (by simp))
        have hB1 : Below w.heap.size w w1 := (((Below.refl w.heap.size w).alloc (Nat.le_refl _) _).alloc (by simp) _).trans (hb.mono (by simp; omega))
        simp only [World.size_alloc] at HR HB
        clear hb
        cases hv : valB 1 n ⟨#[]⟩
        · have HV2 : Hid (valR bs x = (0, 0, ⟨#[]⟩, 0, false)) := by unfold Hid; rw [HV.out, hv]; rfl
          clear HV hv
          obtain ⟨c0, c1, c2, f0, f1, f2⟩ := box_cell HR.out
          go_wp2
          refine box_post HR.out (fun w4 h4 gr => ?_)
          clear c0 c1 c2 f0 f1 f2
          obtain ⟨c0, c1, c2, -, -, -⟩ := box_cell h4
          refine bodyPost_ret (v := valT (0, 0, ⟨#[]⟩, 0, false)) (by simp [results, Tryd.results16, go_sem, c0, c1, c2, valT]) rfl ⟨ret_val HV2.out, below_set hB1 gr (by omega)⟩
        · have HV2 : Hid (valR bs x = (1, n, ⟨#[]⟩, q, true)) := by unfold Hid; rw [HV.out, hv]; rfl
          clear HV hv
          obtain ⟨c0, c1, c2, f0, f1, f2⟩ := box_cell HR.out
          obtain ⟨d0, d1, d2, -, -, -⟩ := box_cell HB.out
          go_wp2
          refine box_post HR.out (fun w4 h4 gr => ?_)
          clear c0 c1 c2 f0 f1 f2
          obtain ⟨c0, c1, c2, -, -, -⟩ := box_cell h4
          refine bodyPost_ret (v := valT (1, n, ⟨#[]⟩, q, true)) (by simp [results, Tryd.results16, go_sem, c0, c1, c2, valT]) rfl ⟨ret_val HV2.out, below_set hB1 gr (by omega)⟩
    · obtain ⟨s, q, b, h2⟩ : ∃ s q b, textR bs p = (s, q, b) := ⟨_, _, _, rfl⟩
      have hs : s.size ≤ bs.length := by have := textR_size bs p; rw [h2] at this; exact this
      have HV := hide (valR_text hkp hk h2)
      have HN := hide hkp
      have HN2 := hide h2
      have hk1 : (k == 1) = false := by simpa using hk
      clear hkp h2 hk
      go_enter Tryd.func16, Tryd.ntmps16
      go_wp2_with fail
      refine (specGetNum_any a cap x bs _ (HR1.out _) hn).mono ?_
      rw [HN.out]
      rintro e w1 ⟨rfl, rfl⟩
      go_wp2_with fail
      refine (specGetText_any a cap p bs _ (HR2.out _ _) hn hcap).mono ?_
      rw [HN2.out]
      rintro e w1 ⟨rfl, rfl⟩
      cases b
      · have HV2 : Hid (valR bs x = (0, 0, ⟨#[]⟩, 0, false)) := by unfold Hid; rw [HV.out]; rfl
        clear HV
        go_wp2
        go_returns
        exact ⟨ret_val HV2.out, by go_grown⟩
      · skip
        go_wp2_with fail
        refine (specValOk_any k 0 s _ (by unfold maxLen; omega)).mono ?_
        rintro e w1 ⟨rfl, g1⟩
        have hb := grown_below' g1
        clear g1
        have HR := hide (box_below (box_old (box_new w (.int .i64 0) (.int .i64 0) (.string ⟨#[]⟩) 25) (by simp) (.cells #[.int .i64 k, .int .i64 0, .string s] 25)) hb (by simp; omega))
        have HB := hide (box_below (box_new (w.alloc (.cells #[.int .i64 0, .int .i64 0, .string ⟨#[]⟩] 25)) (.int .i64 k) (.int .i64 0) (.string s) 25) hb (by simp))
        have hB1 : Below w.heap.size w w1 := (((Below.refl w.heap.size w).alloc (Nat.le_refl _) _).alloc (by simp) _).trans (hb.mono (by simp; omega))
        simp only [World.size_alloc] at HR HB
        clear hb
        cases hv : valB k 0 s
        · have HV2 : Hid (valR bs x = (0, 0, ⟨#[]⟩, 0, false)) := by unfold Hid; rw [HV.out, hv]; rfl
          clear HV hv
          obtain ⟨c0, c1, c2, f0, f1, f2⟩ := box_cell HR.out
          go_wp2
          refine box_post HR.out (fun w4 h4 gr => ?_)
          clear c0 c1 c2 f0 f1 f2
          obtain ⟨c0, c1, c2, -, -, -⟩ := box_cell h4
          refine bodyPost_ret (v := valT (0, 0, ⟨#[]⟩, 0, false)) (by simp [results, Tryd.results16, go_sem, c0, c1, c2, valT]) rfl ⟨ret_val HV2.out, below_set hB1 gr (by omega)⟩
        · have HV2 : Hid (valR bs x = (k, 0, s, q, true)) := by unfold Hid; rw [HV.out, hv]; rfl
          clear HV hv
          obtain ⟨c0, c1, c2, f0, f1, f2⟩ := box_cell HR.out
          obtain ⟨d0, d1, d2, -, -, -⟩ := box_cell HB.out
          go_wp2
          refine box_post HR.out (fun w4 h4 gr => ?_)
          clear c0 c1 c2 f0 f1 f2
          obtain ⟨c0, c1, c2, -, -, -⟩ := box_cell h4
          refine bodyPost_ret (v := valT (k, 0, s, q, true)) (by simp [results, Tryd.results16, go_sem, c0, c1, c2, valT]) rfl ⟨ret_val HV2.out, below_set hB1 gr (by omega)⟩
end Go.Proofs.YtofdbnkeddcdjaaDoor
/-
  Out of a row's list of the library's variables: the table of powers of ten, and the two errors.
-/
namespace Go.Proofs.YtofdbnkeddcdjaaDoor
open Go.RowKit
set_option linter.unusedVariables false
set_option maxRecDepth 100000

theorem gT : Tryd.prog.globalNamed "internal/strconv.uint64pow10" = some 2 := by kernel_rfl
theorem gTType : (Tryd.prog.globals[2]?).map (·.type) = some 102 := by kernel_rfl
theorem gES : Tryd.prog.globalNamed "strconv.ErrSyntax" = some 0 := by kernel_rfl
theorem gESType : (Tryd.prog.globals[0]?).map (·.type) = some 75 := by kernel_rfl
theorem gER : Tryd.prog.globalNamed "strconv.ErrRange" = some 1 := by kernel_rfl
theorem gERType : (Tryd.prog.globals[1]?).map (·.type) = some 75 := by kernel_rfl
theorem cellsES : Tryd.prog.cellsOf 111 = 1 := by kernel_rfl
theorem cellsStr : Tryd.prog.cellsOf 9 = 1 := by kernel_rfl
theorem star : "*" ++ "errors.errorString" = "*errors.errorString" := by decide
theorem rowES (u : TypeId) (h : Tryd.prog.typeName? 3 u = some "*errors.errorString") : u = 109 :=
  typeName_ptr_named (nm := "errors.errorString") (by rw [star]; kernel_rfl) (by kernel_rfl) (by decide) u (by rw [star]; exact h)

theorem tab_of {r : List (String × DataW Unit)} {a b : String × DataW Unit} {W : World} (h : laidMet Tryd.prog (a :: b :: ("internal/strconv.uint64pow10", Rows.laid_internal_strconv_uint64pow10) :: r) W) : Tab W :=
  Lib.tabIs_of_head (zs := Lib.pow10Tab) (rest := r) gT gTType Tryd.underlying102 Tryd.underlying90 (by kernel_rfl) (by kernel_rfl) h.tail.tail
theorem errs_of {r : List (String × DataW Unit)} {a b c : String × DataW Unit} {W : World} (h : laidMet Tryd.prog (a :: b :: c :: ("strconv.ErrRange", Rows.laid_strconv_ErrRange) :: ("strconv.ErrSyntax", Rows.laid_strconv_ErrSyntax) :: r) W) : Errs W := by
  have h3 := h.tail.tail.tail
  obtain ⟨a0, s0, hv0, -, -, -⟩ := laid_sentinel h3 gER gERType Tryd.underlying75 rowES Tryd.underlying109 Tryd.underlying111 rfl rfl Tryd.underlying9 cellsES cellsStr
  obtain ⟨a1, s1, hv1, -, -, -⟩ := laid_sentinel h3.tail gES gESType Tryd.underlying75 rowES Tryd.underlying109 Tryd.underlying111 rfl rfl Tryd.underlying9 cellsES cellsStr
  exact ⟨⟨_, _, hv1⟩, ⟨_, _, hv0⟩⟩
end Go.Proofs.YtofdbnkeddcdjaaDoor
