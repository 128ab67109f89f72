/-
  What the tested sums and differences of values answer: sumV; nothing that was there has turned.
-/
import Derived.Test.YtbellpalomiokaaSumD
import Derived.Test.YtbellpalomiokaaBox
namespace Go.Proofs.Ytbellpalomiokaa
open Go.RowKit
set_option linter.unusedVariables false

theorem ta_num_num (n : Int) (w : World) : (Instr.typeAssert (.iface 135 (.int .i64 n)) 124 135 true).run Try.prog w = .ok (.tuple #[.int .i64 n, .bool true]) w := by kernel_rfl
theorem ta_nil_num (w : World) : (Instr.typeAssert .nilIface 124 135 true).run Try.prog w = .ok (.tuple #[.int .i64 0, .bool false]) w := by kernel_rfl
theorem ta_text_num (s : ByteArray) (w : World) : (Instr.typeAssert (.iface 136 (.string s)) 124 135 true).run Try.prog w = .ok (.tuple #[.int .i64 0, .bool false]) w := by kernel_rfl

set_option maxHeartbeats 800000 in
theorem numberOfSpoken_any (K N : Int) (S : ByteArray) (w : World) :
    Calls Try.prog 84 #[spokV K N S] w fun e w' => e = .returned (.tuple #[.int .i64 (numN K N S), .bool (isNum K N S)]) ∧ w' = w := by
  have HN : Hid (numN K N S = if isNum K N S then N else 0) := rfl
  have t1 := ta_num_num
  have t2 := ta_nil_num
  have t3 := ta_text_num
  by_cases hK : K = 1
  · subst hK
    cases hv : valB 1 N S
    · have HI : Hid (isNum 1 N S = false) := by unfold Hid isNum; rw [hv]; rfl
      rw [spokV_no hv]
      go_enter Try.func84, Try.ntmps84
      go_wp2
      go_ret2
      exact ⟨by rw [HN.out, HI.out]; rfl, rfl⟩
    · have HI : Hid (isNum 1 N S = true) := by unfold Hid isNum; rw [hv]; rfl
      rw [spokV_one hv]
      go_enter Try.func84, Try.ntmps84
      go_wp2
      go_ret2
      exact ⟨by rw [HN.out, HI.out]; rfl, rfl⟩
  · have HI : Hid (isNum K N S = false) := by unfold Hid isNum; simp [hK]
    cases hv : valB K N S
    · rw [spokV_no hv]
      clear hK
      go_enter Try.func84, Try.ntmps84
      go_wp2
      go_ret2
      exact ⟨by rw [HN.out, HI.out]; rfl, rfl⟩
    · have e : spokV K N S = .iface 136 (.string S) := by unfold spokV; rw [hv, if_pos rfl, if_neg hK]
      rw [e]
      clear hK e
      go_enter Try.func84, Try.ntmps84
      go_wp2
      go_ret2
      exact ⟨by rw [HN.out, HI.out]; rfl, rfl⟩

theorem ret_tup {b b' : Bool} {n : Int} (h : b = b') : Ending.returned (tupV b n) = .returned (tupV b' n) := by rw [h]

set_option maxHeartbeats 800000 in
theorem numberIf_any (ok : Bool) (n : Int) (w : World) :
    Calls Try.prog 86 #[.bool ok, .int .i64 n] w fun e w' => e = .returned (tupV (ok && inB n (-1000000000) 1000000000) n) ∧ Below w.heap.size w w' := by
  cases ok
  · go_enter Try.func86, Try.ntmps86
    go_wp2
    go_returns
    exact ⟨rfl, by go_grown⟩
  · have HB := hide (valB_inB n)
    cases hi : inB n (-1000000000) 1000000000
    all_goals
      rw [hi] at HB
      go_enter Try.func86, Try.ntmps86
      go_wp2_with fail
      refine (implValOk_any 1 n ⟨#[]⟩ _ (by decide)).mono ?_
      rw [HB.out]
      rintro e w1 ⟨rfl, hb⟩
      have HG := hide (box_below (box_old (box_new w (.int .i64 0) (.int .i64 0) (.string ⟨#[]⟩) 30) (by simp) (.cells #[.int .i64 1, .int .i64 n, .string ⟨#[]⟩] 30)) hb (by simp; omega))
      obtain ⟨c0, c1, c2, f0, f1, f2⟩ := box_cell HG.out
      have HG2 := hide (box_below (box_new (w.alloc (.cells #[.int .i64 0, .int .i64 0, .string ⟨#[]⟩] 30)) (.int .i64 1) (.int .i64 n) (.string ⟨#[]⟩) 30) hb (by simp))
      obtain ⟨d0, d1, d2, -, -, -⟩ := box_cell HG2.out
      simp only [World.size_alloc] at d0 d1 d2
      have hb1 : Below w.heap.size w w1 := (((Below.refl w.heap.size w).alloc (Nat.le_refl _) _).alloc (by simp) _).trans (hb.mono (by simp; omega))
      clear hb HG2
      go_wp2
      refine box_post HG.out (fun w2 h3 gr => ?_)
      clear c0 c1 c2 f0 f1 f2
      obtain ⟨c0, c1, c2, -, -, -⟩ := box_cell h3
      refine bodyPost_ret (v := tupV _ n) (by simp [results, Try.results86, go_sem, c0, c1, c2, tupV]) rfl ⟨rfl, below_set hb1 gr (Nat.le_refl _)⟩

set_option maxHeartbeats 1600000 in
theorem implAddVals_any (K N : Int) (S : ByteArray) (K' N' : Int) (S' : ByteArray) (w : World) (hs : S.size ≤ maxLen) (hs' : S'.size ≤ maxLen) :
    Calls Try.prog 54 #[.agg #[.int .i64 K, .int .i64 N, .string S], .agg #[.int .i64 K', .int .i64 N', .string S']] w fun e w' =>
      e = .returned (sumV K N S K' N' S' (numN K N S + numN K' N' S')) ∧ Below w.heap.size w w' := by
  obtain ⟨n1, n2⟩ := numN_in K N S
  obtain ⟨n3, n4⟩ := numN_in K' N' S'
  go_enter Try.func54, Try.ntmps54
  go_wp2_with fail
  refine (spokenOf_any K N S _ hs).mono ?_
  rintro e w1 ⟨rfl, hb1⟩
  have HB := hide (box_below (box_old (box_new (w.alloc (.cells #[.int .i64 K, .int .i64 N, .string S] 30)) (.int .i64 K') (.int .i64 N') (.string S') 30) (by simp) (.cells #[.int .i64 0, .int .i64 0, .string ⟨#[]⟩] 30)) hb1 (by simp))
  have HR := hide (box_below (box_new ((w.alloc (.cells #[.int .i64 K, .int .i64 N, .string S] 30)).alloc (.cells #[.int .i64 K', .int .i64 N', .string S'] 30)) (.int .i64 0) (.int .i64 0) (.string ⟨#[]⟩) 30) hb1 (by simp))
  have hB1 : Below w.heap.size w w1 := ((((Below.refl w.heap.size w).alloc (Nat.le_refl _) _).alloc (by simp) _).alloc (by simp; omega) _).trans (hb1.mono (by simp; omega))
  have hz1 : w.heap.size + 3 ≤ w1.heap.size := by have := hb1.size; simp at this; omega
  simp only [World.size_alloc] at HB HR
  clear hb1
  obtain ⟨c0, c1, c2, -, -, -⟩ := box_cell HB.out
  go_wp2_with fail
  refine (numberOfSpoken_any K N S _).mono ?_
  rintro e w' ⟨rfl, rfl⟩
  go_wp2_with fail
  refine (spokenOf_any K' N' S' _ hs').mono ?_
  rintro e w2 ⟨rfl, hb2⟩
  have HR2 := hide (box_below HR.out hb2 (by omega))
  have hB2 : Below w.heap.size w w2 := hB1.trans (hb2.mono (by omega))
  have hz2 : w.heap.size + 3 ≤ w2.heap.size := by have := hb2.size; omega
  clear hb2 HR HB c0 c1 c2 hB1 hz1
  go_wp2_with fail
  refine (numberOfSpoken_any K' N' S' _).mono ?_
  rintro e w' ⟨rfl, rfl⟩
  have HV : Hid (∀ b, isNum K N S = b → sumV K N S K' N' S' (numN K N S + numN K' N' S') = tupV (b && isNum K' N' S' && inB (numN K N S + numN K' N' S') (-1000000000) 1000000000) (numN K N S + numN K' N' S')) := fun b h => by rw [sumV, h]
  generalize hx : numN K N S = x at n1 n2 HV ⊢
  generalize hy : numN K' N' S' = y at n3 n4 HV ⊢
  have HX := hide hx
  have HY := hide hy
  clear hx hy
  generalize isNum K' N' S' = b' at HV ⊢
  cases hi : isNum K N S
  all_goals
    have HV2 := hide (HV.out _ hi)
    clear HV hi
    go_wp2_with fail
    refine (numberIf_any _ _ _).mono ?_
    rintro e w3 ⟨rfl, hb3⟩
    have HR3 := hide (box_below HR2.out hb3 (by omega))
    have hB3 : Below w.heap.size w w3 := hB2.trans (hb3.mono (by omega))
    obtain ⟨c0, c1, c2, f0, f1, f2⟩ := box_cell HR3.out
    clear hb3 HR2
    generalize hT : tupV _ _ = tv
    obtain ⟨r1, r2, rb, rfl⟩ : ∃ r1 r2 b', tv = .tuple #[.agg #[.int .i64 r1, .int .i64 r2, .string ⟨#[]⟩], .bool b'] := by rw [← hT]; exact tupV_open _ _
    have HT := hide hT
    clear hT
    go_wp2
    refine box_post HR3.out (fun w4 h4 gr => ?_)
    clear c0 c1 c2 f0 f1 f2
    obtain ⟨c0, c1, c2, -, -, -⟩ := box_cell h4
    refine bodyPost_ret (v := .tuple #[.agg #[.int .i64 r1, .int .i64 r2, .string ⟨#[]⟩], .bool rb]) (by simp [results, Try.results54, go_sem, c0, c1, c2]) rfl ⟨by rw [HX.out, HY.out]; exact congrArg _ (HT.out.symm.trans HV2.out.symm), below_set hB3 gr (by omega)⟩

set_option maxHeartbeats 1600000 in
theorem implSubVals_any (K N : Int) (S : ByteArray) (K' N' : Int) (S' : ByteArray) (w : World) (hs : S.size ≤ maxLen) (hs' : S'.size ≤ maxLen) :
    Calls Try.prog 55 #[.agg #[.int .i64 K, .int .i64 N, .string S], .agg #[.int .i64 K', .int .i64 N', .string S']] w fun e w' =>
      e = .returned (sumV K N S K' N' S' (numN K N S - numN K' N' S')) ∧ Below w.heap.size w w' := by
  obtain ⟨n1, n2⟩ := numN_in K N S
  obtain ⟨n3, n4⟩ := numN_in K' N' S'
  go_enter Try.func55, Try.ntmps55
  go_wp2_with fail
  refine (spokenOf_any K N S _ hs).mono ?_
  rintro e w1 ⟨rfl, hb1⟩
  have HB := hide (box_below (box_old (box_new (w.alloc (.cells #[.int .i64 K, .int .i64 N, .string S] 30)) (.int .i64 K') (.int .i64 N') (.string S') 30) (by simp) (.cells #[.int .i64 0, .int .i64 0, .string ⟨#[]⟩] 30)) hb1 (by simp))
  have HR := hide (box_below (box_new ((w.alloc (.cells #[.int .i64 K, .int .i64 N, .string S] 30)).alloc (.cells #[.int .i64 K', .int .i64 N', .string S'] 30)) (.int .i64 0) (.int .i64 0) (.string ⟨#[]⟩) 30) hb1 (by simp))
  have hB1 : Below w.heap.size w w1 := ((((Below.refl w.heap.size w).alloc (Nat.le_refl _) _).alloc (by simp) _).alloc (by simp; omega) _).trans (hb1.mono (by simp; omega))
  have hz1 : w.heap.size + 3 ≤ w1.heap.size := by have := hb1.size; simp at this; omega
  simp only [World.size_alloc] at HB HR
  clear hb1
  obtain ⟨c0, c1, c2, -, -, -⟩ := box_cell HB.out
  go_wp2_with fail
  refine (numberOfSpoken_any K N S _).mono ?_
  rintro e w' ⟨rfl, rfl⟩
  go_wp2_with fail
  refine (spokenOf_any K' N' S' _ hs').mono ?_
  rintro e w2 ⟨rfl, hb2⟩
  have HR2 := hide (box_below HR.out hb2 (by omega))
  have hB2 : Below w.heap.size w w2 := hB1.trans (hb2.mono (by omega))
  have hz2 : w.heap.size + 3 ≤ w2.heap.size := by have := hb2.size; omega
  clear hb2 HR HB c0 c1 c2 hB1 hz1
  go_wp2_with fail
  refine (numberOfSpoken_any K' N' S' _).mono ?_
  rintro e w' ⟨rfl, rfl⟩
  have HV : Hid (∀ b, isNum K N S = b → sumV K N S K' N' S' (numN K N S - numN K' N' S') = tupV (b && isNum K' N' S' && inB (numN K N S - numN K' N' S') (-1000000000) 1000000000) (numN K N S - numN K' N' S')) := fun b h => by rw [sumV, h]
  generalize hx : numN K N S = x at n1 n2 HV ⊢
  generalize hy : numN K' N' S' = y at n3 n4 HV ⊢
  have HX := hide hx
  have HY := hide hy
  clear hx hy
  generalize isNum K' N' S' = b' at HV ⊢
  cases hi : isNum K N S
  all_goals
    have HV2 := hide (HV.out _ hi)
    clear HV hi
    go_wp2_with fail
    refine (numberIf_any _ _ _).mono ?_
    rintro e w3 ⟨rfl, hb3⟩
    have HR3 := hide (box_below HR2.out hb3 (by omega))
    have hB3 : Below w.heap.size w w3 := hB2.trans (hb3.mono (by omega))
    obtain ⟨c0, c1, c2, f0, f1, f2⟩ := box_cell HR3.out
    clear hb3 HR2
    generalize hT : tupV _ _ = tv
    obtain ⟨r1, r2, rb, rfl⟩ : ∃ r1 r2 b', tv = .tuple #[.agg #[.int .i64 r1, .int .i64 r2, .string ⟨#[]⟩], .bool b'] := by rw [← hT]; exact tupV_open _ _
    have HT := hide hT
    clear hT
    go_wp2
    refine box_post HR3.out (fun w4 h4 gr => ?_)
    clear c0 c1 c2 f0 f1 f2
    obtain ⟨c0, c1, c2, -, -, -⟩ := box_cell h4
    refine bodyPost_ret (v := .tuple #[.agg #[.int .i64 r1, .int .i64 r2, .string ⟨#[]⟩], .bool rb]) (by simp [results, Try.results55, go_sem, c0, c1, c2]) rfl ⟨by rw [HX.out, HY.out]; exact congrArg _ (HT.out.symm.trans HV2.out.symm), below_set hB3 gr (by omega)⟩

end Go.Proofs.Ytbellpalomiokaa
