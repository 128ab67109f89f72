/-
  What the model's sums and differences of values answer: sumV; nothing that was there has turned.
-/
import Derived.Test.YtbellpalomiokabJoined1
namespace Go.Proofs.Ytbellpalomiokab
open Go.RowKit
set_option linter.unusedVariables false

theorem grown_below {w w' : World} (h : w.grownBy w' none) : Below w.heap.size w w' := (Below.refl _ _).grown h (Nat.le_refl _) (fun k hk => by cases hk)
theorem isNum_one (N : Int) (S : ByteArray) : isNum 1 N S = valB 1 N S := by simp [isNum]
theorem isNum_no {K : Int} (N : Int) (S : ByteArray) (h : (K == 1) = false) : isNum K N S = false := by simp [isNum, h]

set_option maxHeartbeats 1600000 in
theorem l2Sum_any (K N : Int) (S : ByteArray) (K' N' : Int) (S' : ByteArray) (n : Int) (w : World) (hs : S.size ≤ maxLen) (hs' : S'.size ≤ maxLen) :
    Calls Try.prog 80 #[.agg #[.int .i64 K, .int .i64 N, .string S], .agg #[.int .i64 K', .int .i64 N', .string S'], .int .i64 n] w fun e w' =>
      e = .returned (sumV K N S K' N' S' n) ∧ Below w.heap.size w w' := by
  have HV : Hid (sumV K N S K' N' S' n = tupV (isNum K N S && isNum K' N' S' && inB n (-1000000000) 1000000000) n) := rfl
  cases hk : (K == 1)
  · have hkn : (K != 1) = true := by simp [bne, hk]
    rw [isNum_no N S hk] at HV
    go_enter Try.func80, Try.ntmps80
    go_wp2
    go_returns
    exact ⟨by rw [HV.out]; rfl, by go_grown⟩
  · obtain rfl : K = 1 := by simpa using hk
    clear hk
    cases hk' : (K' == 1)
    · have hkn : (K' != 1) = true := by simp [bne, hk']
      rw [isNum_no N' S' hk', Bool.and_false] at HV
      go_enter Try.func80, Try.ntmps80
      go_wp2
      go_returns
      exact ⟨by rw [HV.out]; rfl, by go_grown⟩
    · obtain rfl : K' = 1 := by simpa using hk'
      clear hk'
      rw [isNum_one, isNum_one, ← valB_inB n] at HV
      go_enter Try.func80, Try.ntmps80
      go_wp2_with fail
      refine (specValOk_any 1 N S _ hs).mono ?_
      rintro e w1 ⟨rfl, g1⟩
      have hb1 := grown_below g1
      have HB := hide (box_below (box_old (box_old (box_new (w.alloc (.cells #[.int .i64 1, .int .i64 N, .string S] 45)) (.int .i64 1) (.int .i64 N') (.string S') 45) (by simp) (.cells #[.int .i64 0, .int .i64 0, .string ⟨#[]⟩] 45)) (by simp) (.cells #[.int .i64 1, .int .i64 n, .string ⟨#[]⟩] 45)) hb1 (by simp))
      have HR := hide (box_below (box_old (box_new ((w.alloc (.cells #[.int .i64 1, .int .i64 N, .string S] 45)).alloc (.cells #[.int .i64 1, .int .i64 N', .string S'] 45)) (.int .i64 0) (.int .i64 0) (.string ⟨#[]⟩) 45) (by simp) (.cells #[.int .i64 1, .int .i64 n, .string ⟨#[]⟩] 45)) hb1 (by simp))
      have HN := hide (box_below (box_new (((w.alloc (.cells #[.int .i64 1, .int .i64 N, .string S] 45)).alloc (.cells #[.int .i64 1, .int .i64 N', .string S'] 45)).alloc (.cells #[.int .i64 0, .int .i64 0, .string ⟨#[]⟩] 45)) (.int .i64 1) (.int .i64 n) (.string ⟨#[]⟩) 45) hb1 (by simp))
      have hB1 : Below w.heap.size w w1 := (((((Below.refl w.heap.size w).alloc (Nat.le_refl _) _).alloc (by simp) _).alloc (by simp; omega) _).alloc (by simp; omega) _).trans (hb1.mono (by simp; omega))
      have hz1 : w.heap.size + 4 ≤ w1.heap.size := by have := hb1.size; simp at this; omega
      simp only [World.size_alloc] at HB HR HN
      clear hb1 g1
      cases hv : valB 1 N S
      · rw [hv] at HV
        obtain ⟨c0, c1, c2, f0, f1, f2⟩ := box_cell HR.out
        go_wp2
        refine box_post HR.out (fun w4 h4 gr => ?_)
        clear c0 c1 c2 f0 f1 f2
        obtain ⟨c0, c1, c2, -, -, -⟩ := box_cell h4
        refine bodyPost_ret (v := .tuple #[.agg #[.int .i64 0, .int .i64 0, .string ⟨#[]⟩], .bool false]) (by simp [results, Try.results80, go_sem, c0, c1, c2]) rfl ⟨by rw [HV.out]; rfl, below_set hB1 gr (by omega)⟩
      · rw [hv] at HV
        obtain ⟨b0, b1, b2, -, -, -⟩ := box_cell HB.out
        go_wp2_with fail
        refine (specValOk_any 1 N' S' _ hs').mono ?_
        rintro e w2 ⟨rfl, g2⟩
        have hb2 := grown_below g2
        have HR2 := hide (box_below HR.out hb2 (by omega))
        have HN2 := hide (box_below HN.out hb2 (by omega))
        have hB2 : Below w.heap.size w w2 := hB1.trans (hb2.mono (by omega))
        have hz2 : w.heap.size + 4 ≤ w2.heap.size := by have := hb2.size; omega
        clear hb2 g2 HR HN HB b0 b1 b2 hB1 hz1 hv
        cases hv' : valB 1 N' S'
        · rw [hv'] at HV
          obtain ⟨c0, c1, c2, f0, f1, f2⟩ := box_cell HR2.out
          go_wp2
          refine box_post HR2.out (fun w4 h4 gr => ?_)
          clear c0 c1 c2 f0 f1 f2
          obtain ⟨c0, c1, c2, -, -, -⟩ := box_cell h4
          refine bodyPost_ret (v := .tuple #[.agg #[.int .i64 0, .int .i64 0, .string ⟨#[]⟩], .bool false]) (by simp [results, Try.results80, go_sem, c0, c1, c2]) rfl ⟨by rw [HV.out]; rfl, below_set hB2 gr (by omega)⟩
        · rw [hv'] at HV
          obtain ⟨b0, b1, b2, -, -, -⟩ := box_cell HN2.out
          clear hv'
          go_wp2_with fail
          refine (specValOk_any 1 n ⟨#[]⟩ _ (by decide)).mono ?_
          rintro e w3 ⟨rfl, g3⟩
          have hb3 := grown_below g3
          have HR3 := hide (box_below HR2.out hb3 (by omega))
          have HN3 := hide (box_below HN2.out hb3 (by omega))
          have hB3 : Below w.heap.size w w3 := hB2.trans (hb3.mono (by omega))
          clear hb3 g3 HR2 HN2 b0 b1 b2 hB2
          cases hi : valB 1 n ⟨#[]⟩
          · rw [hi] at HV
            clear hi
            obtain ⟨c0, c1, c2, f0, f1, f2⟩ := box_cell HR3.out
            go_wp2
            refine box_post HR3.out (fun w4 h4 gr => ?_)
            clear c0 c1 c2 f0 f1 f2
            obtain ⟨c0, c1, c2, -, -, -⟩ := box_cell h4
            refine bodyPost_ret (v := .tuple #[.agg #[.int .i64 0, .int .i64 0, .string ⟨#[]⟩], .bool false]) (by simp [results, Try.results80, go_sem, c0, c1, c2]) rfl ⟨by rw [HV.out]; rfl, below_set hB3 gr (by omega)⟩
          · rw [hi] at HV
            clear hi
            obtain ⟨c0, c1, c2, f0, f1, f2⟩ := box_cell HR3.out
            obtain ⟨d0, d1, d2, -, -, -⟩ := box_cell HN3.out
            go_wp2
            refine box_post HR3.out (fun w4 h4 gr => ?_)
            clear c0 c1 c2 f0 f1 f2
            obtain ⟨c0, c1, c2, -, -, -⟩ := box_cell h4
            refine bodyPost_ret (v := .tuple #[.agg #[.int .i64 1, .int .i64 n, .string ⟨#[]⟩], .bool true]) (by simp [results, Try.results80, go_sem, c0, c1, c2]) rfl ⟨by rw [HV.out]; rfl, below_set hB3 gr (by omega)⟩

theorem wrap_in {x : Int} (h : -2000000000 ≤ x) (h' : x ≤ 2000000000) : wrap64 x = x := IntWalk.wrap64_in _ (by omega)

set_option maxHeartbeats 1600000 in
theorem specAddVals_any (K N : Int) (S : ByteArray) (K' N' : Int) (S' : ByteArray) (w : World) (hs : S.size ≤ maxLen) (hs' : S'.size ≤ maxLen) :
    Calls Try.prog 55 #[.agg #[.int .i64 K, .int .i64 N, .string S], .agg #[.int .i64 K', .int .i64 N', .string S']] w fun e w' =>
      e = .returned (sumV K N S K' N' S' (numN K N S + numN K' N' S')) ∧ Below w.heap.size w w' := by
  obtain ⟨n1, n2⟩ := numN_in K N S
  obtain ⟨n3, n4⟩ := numN_in K' N' S'
  have HE : Hid (sumV K N S K' N' S' (wrap64 (N + N')) = sumV K N S K' N' S' (numN K N S + numN K' N' S')) :=
    sumV_eq (fun h1 h2 => by rw [numN_of h1] at n1 n2 ⊢; rw [numN_of h2] at n3 n4 ⊢; exact wrap_in (by omega) (by omega))
  clear n1 n2 n3 n4
  go_enter Try.func55, Try.ntmps55
  go_wp2_with fail
  refine (l2Sum_any K N S K' N' S' _ _ hs hs').mono ?_
  rintro e w1 ⟨rfl, hb1⟩
  have HR := hide (box_below (box_new ((w.alloc (.cells #[.int .i64 K, .int .i64 N, .string S] 45)).alloc (.cells #[.int .i64 K', .int .i64 N', .string S'] 45)) (.int .i64 0) (.int .i64 0) (.string ⟨#[]⟩) 45) hb1 (by simp))
  have hB1 : Below w.heap.size w w1 := ((((Below.refl w.heap.size w).alloc (Nat.le_refl _) _).alloc (by simp) _).alloc (by simp; omega) _).trans (hb1.mono (by simp; omega))
  simp only [World.size_alloc] at HR
  clear hb1
  obtain ⟨c0, c1, c2, f0, f1, f2⟩ := box_cell HR.out
  generalize hT : sumV K N S K' N' S' _ = tv
  obtain ⟨r1, r2, rb, rfl⟩ : ∃ r1 r2 b', tv = .tuple #[.agg #[.int .i64 r1, .int .i64 r2, .string ⟨#[]⟩], .bool b'] := by rw [← hT]; exact tupV_open _ _
  have HT := hide hT
  clear hT
  go_wp2
  refine box_post HR.out (fun w4 h4 gr => ?_)
  clear c0 c1 c2 f0 f1 f2
  obtain ⟨c0, c1, c2, -, -, -⟩ := box_cell h4
  refine bodyPost_ret (v := .tuple #[.agg #[.int .i64 r1, .int .i64 r2, .string ⟨#[]⟩], .bool rb]) (by simp [results, Try.results55, go_sem, c0, c1, c2]) rfl ⟨by rw [← HE.out]; exact congrArg _ HT.out.symm, below_set hB1 gr (by omega)⟩

end Go.Proofs.Ytbellpalomiokab
