/-
  What the model's l5One answers: what begins at a place, and the place behind it.
-/
import Derived.Test.YtfgcflfnpeapaaaGreatDoorLexS1
import Derived.Test.YtfgcflfnpeapaaaGreatDoorLexQ
import Derived.Test.YtfgcflfnpeapaaaGreatDoorWhole
namespace Go.Proofs.YtfgcflfnpeapaaaGreatDoor
open Go.RowKit
set_option linter.unusedVariables false

theorem mark_two {s : ByteArray} {k : Nat} (h : k + 1 < s.size) : markB (s.extract k (k + 2)) = decide (bat s k = 45 ∧ bat s (k + 1) = 62) := by
  obtain ⟨c, e, hc, _⟩ := drop_at (s := s) (k := k) (by omega)
  obtain ⟨d, e2, hd, _⟩ := drop_at h
  have hx : (s.extract k (k + 2)).toList = [c, d] := by
    rw [ByteArray.toList_eq, ext_list, e, show k + 2 - k = 2 by omega, e2]; rfl
  unfold markB
  rw [hx, hc, hd]
  have h1 : ones.any (fun x => [c, d] == [x]) = false := by
    rw [← Bool.not_eq_true, List.any_eq_true]
    rintro ⟨x, _, hx⟩
    simp at hx
  rw [h1, Bool.or_false, Bool.eq_iff_iff, beq_iff_eq, decide_eq_true_iff]
  constructor
  · intro he
    simp only [List.cons.injEq, and_true] at he
    rw [he.1, he.2]
    exact ⟨rfl, rfl⟩
  · rintro ⟨h3, h4⟩
    have e3 : c = 45 := UInt8.toNat_inj.1 (by show c.toNat = 45; omega)
    have e4 : d = 62 := UInt8.toNat_inj.1 (by show d.toNat = 62; omega)
    rw [e3, e4]
theorem ret_one {s : ByteArray} {k e : Nat} {x : Int} {v : V3} (h : oneP s k = (v, e)) (hx : x = (e : Int)) : Ending.returned (.tuple #[.agg #[.int .i64 v.K, .int .i64 v.N, .string v.S], .int .i64 x]) = .returned (.tuple #[.agg #[.int .i64 (oneP s k).1.K, .int .i64 (oneP s k).1.N, .string (oneP s k).1.S], .int .i64 ((oneP s k).2 : Int)]) := by
  rw [h, hx]

set_option maxRecDepth 100000 in
set_option maxHeartbeats 6400000 in
theorem l5One_any (s : ByteArray) (k : Nat) (w : World) (hs : s.size ≤ 1048576) (hlt : k < s.size) :
    Calls Tryz.prog 21 #[.string s, .int .i64 (k : Int)] w fun e w' =>
      e = .returned (.tuple #[.agg #[.int .i64 (oneP s k).1.K, .int .i64 (oneP s k).1.N, .string (oneP s k).1.S], .int .i64 ((oneP s k).2 : Int)]) ∧ Below w.heap.size w w' := by
  have HB := hide (bat_in hlt)
  have hlt' : ((k : Int) < (s.size : Int)) := by omega
  have hlb : 0 ≤ ((s[k]'hlt).toNat : Int) := by omega
  have hub : ((s[k]'hlt).toNat : Int) ≤ 255 := by have := (s[k]'hlt).toNat_lt; omega
  cases h1 : inB ((s[k]'hlt).toNat : Int) 48 57
  · have n1 : ¬ digB (bat s k) = true := by unfold digB; rw [HB.out, h1]; simp
    cases h2 : inB ((s[k]'hlt).toNat : Int) 97 122
    · have n2 : ¬ inB (bat s k) 97 122 = true := by rw [HB.out, h2]; simp
      cases h3 : inB ((s[k]'hlt).toNat : Int) 65 90
      · have n3 : ¬ inB (bat s k) 65 90 = true := by rw [HB.out, h3]; simp
        by_cases h4 : bat s k = 39
        · have q4 : (((s[k]'hlt).toNat : Int) == 39) = true := by rw [← HB.out]; simpa using h4
          obtain ⟨e, he⟩ : ∃ e, runN notQ s (k + 1) = e := ⟨_, rfl⟩
          have hge := runN_ge notQ s (k + 1)
          have hle := runN_le (P := notQ) (s := s) (k := k + 1) (by omega)
          have HO : Hid (oneP s k = if e = s.size then (⟨0, 0, ⟨#[]⟩⟩, s.size) else (⟨4, 0, s.extract (k + 1) e⟩, e + 1)) := by
            unfold Hid oneP; rw [if_neg n1, if_neg n2, if_neg n3, if_pos h4, he]
          have HC := hide (fun W => l5Quote_any s (k + 1) W hs (by omega))
          rw [he] at hge hle HC
          clear he n1 n2 n3 h4
          by_cases hes : e = s.size
          · rw [if_pos hes] at HO
            have qe : ((e : Int) == (s.size : Int)) = true := by rw [hes]; simp
            go_enter Tryz.func21, Tryz.ntmps21
            go_wp2_with (first | (go_at_call 39; refine (l1In_any _ _ _ _).mono ?_; rintro e' w' ⟨rfl, rfl⟩) | (go_at_call 43; refine (l5Large_any _ _ (by omega) (by omega)).mono ?_; rintro e' w' ⟨rfl, rfl⟩) | (go_at_call 44; refine (HC.out _).mono ?_; rintro e' w' ⟨rfl, rfl⟩))
            obtain ⟨d0, d1, d2, -, -, -⟩ := box_cell (box_new w (.int .i64 0) (.int .i64 0) (.string ⟨#[]⟩) 31)
            exact bodyPost_ret (v := .tuple #[.agg #[.int .i64 0, .int .i64 0, .string ⟨#[]⟩], .int .i64 (s.size : Int)]) (by simp [results, Tryz.results21, go_sem, d0, d1, d2]) rfl ⟨ret_one HO.out rfl, below_al w _⟩
          · rw [if_neg hes] at HO
            have qe : ((e : Int) == (s.size : Int)) = false := by simp; omega
            have hge' : ((k : Int) + 1 ≤ (e : Int)) := by omega
            have hle' : ((e : Int) ≤ (s.size : Int)) := by omega
            go_enter Tryz.func21, Tryz.ntmps21
            go_wp2_with (first | (go_at_call 39; refine (l1In_any _ _ _ _).mono ?_; rintro e' w' ⟨rfl, rfl⟩) | (go_at_call 43; refine (l5Large_any _ _ (by omega) (by omega)).mono ?_; rintro e' w' ⟨rfl, rfl⟩) | (go_at_call 44; refine (HC.out _).mono ?_; rintro e' w' ⟨rfl, rfl⟩))
            obtain ⟨d0, d1, d2, -, -, -⟩ := box_cell (box_new w (.int .i64 4) (.int .i64 0) (.string (s.extract (k + 1) e)) 31)
            exact bodyPost_ret (v := .tuple #[.agg #[.int .i64 4, .int .i64 0, .string (s.extract (k + 1) e)], .int .i64 ((e : Int) + 1)]) (by simp [results, Tryz.results21, go_sem, d0, d1, d2]) rfl ⟨ret_one HO.out (by omega), below_al w _⟩
        · have q4 : (((s[k]'hlt).toNat : Int) == 39) = false := by rw [← HB.out]; simpa using h4
          by_cases hk1 : k + 1 < s.size
          · have hk1' : ((k : Int) + 1 < (s.size : Int)) := by omega
            have HM := hide (mark_two hk1)
            cases hm : markB (s.extract k (k + 2))
            · have HO : Hid (oneP s k = (⟨5, 0, s.extract k (k + 1)⟩, k + 1)) := by
                unfold Hid oneP
                rw [HM.out, decide_eq_false_iff_not] at hm
                rw [if_neg n1, if_neg n2, if_neg n3, if_neg h4, if_neg hm]
              clear n1 n2 n3 h4
              go_enter Tryz.func21, Tryz.ntmps21
              go_wp2_with (first | (go_at_call 39; refine (l1In_any _ _ _ _).mono ?_; rintro e' w' ⟨rfl, rfl⟩) | (go_at_call 43; refine (l5Large_any _ _ (by omega) (by omega)).mono ?_; rintro e' w' ⟨rfl, rfl⟩) | (go_at_call 45; refine (l5MarkOk_any _ _).mono ?_; rintro e' w' ⟨rfl, rfl⟩))
              obtain ⟨d0, d1, d2, -, -, -⟩ := box_cell (box_new w (.int .i64 5) (.int .i64 0) (.string (s.extract k (k + 1))) 31)
              exact bodyPost_ret (v := .tuple #[.agg #[.int .i64 5, .int .i64 0, .string (s.extract k (k + 1))], .int .i64 ((k : Int) + 1)]) (by simp [results, Tryz.results21, go_sem, d0, d1, d2]) rfl ⟨ret_one HO.out (by omega), below_al w _⟩
            · have HO : Hid (oneP s k = (⟨5, 0, s.extract k (k + 2)⟩, k + 2)) := by
                unfold Hid oneP
                rw [HM.out, decide_eq_true_iff] at hm
                rw [if_neg n1, if_neg n2, if_neg n3, if_neg h4, if_pos hm]
              clear n1 n2 n3 h4
              go_enter Tryz.func21, Tryz.ntmps21
              go_wp2_with (first | (go_at_call 39; refine (l1In_any _ _ _ _).mono ?_; rintro e' w' ⟨rfl, rfl⟩) | (go_at_call 43; refine (l5Large_any _ _ (by omega) (by omega)).mono ?_; rintro e' w' ⟨rfl, rfl⟩) | (go_at_call 45; refine (l5MarkOk_any _ _).mono ?_; rintro e' w' ⟨rfl, rfl⟩))
              obtain ⟨d0, d1, d2, -, -, -⟩ := box_cell (box_new w (.int .i64 5) (.int .i64 0) (.string (s.extract k (k + 2))) 31)
              exact bodyPost_ret (v := .tuple #[.agg #[.int .i64 5, .int .i64 0, .string (s.extract k (k + 2))], .int .i64 ((k : Int) + 2)]) (by simp [results, Tryz.results21, go_sem, d0, d1, d2]) rfl ⟨ret_one HO.out (by omega), below_al w _⟩
          · have hk1' : ¬ ((k : Int) + 1 < (s.size : Int)) := by omega
            have HO : Hid (oneP s k = (⟨5, 0, s.extract k (k + 1)⟩, k + 1)) := by
              unfold Hid oneP
              rw [if_neg n1, if_neg n2, if_neg n3, if_neg h4, if_neg]
              rintro ⟨_, h6⟩
              rw [bat_out (by omega)] at h6
              omega
            clear n1 n2 n3 h4
            go_enter Tryz.func21, Tryz.ntmps21
            go_wp2_with (first | (go_at_call 39; refine (l1In_any _ _ _ _).mono ?_; rintro e' w' ⟨rfl, rfl⟩) | (go_at_call 43; refine (l5Large_any _ _ (by omega) (by omega)).mono ?_; rintro e' w' ⟨rfl, rfl⟩) | (go_at_call 45; refine (l5MarkOk_any _ _).mono ?_; rintro e' w' ⟨rfl, rfl⟩))
            obtain ⟨d0, d1, d2, -, -, -⟩ := box_cell (box_new w (.int .i64 5) (.int .i64 0) (.string (s.extract k (k + 1))) 31)
            exact bodyPost_ret (v := .tuple #[.agg #[.int .i64 5, .int .i64 0, .string (s.extract k (k + 1))], .int .i64 ((k : Int) + 1)]) (by simp [results, Tryz.results21, go_sem, d0, d1, d2]) rfl ⟨ret_one HO.out (by omega), below_al w _⟩
      · obtain ⟨e, he⟩ : ∃ e, runN varByteB s k = e := ⟨_, rfl⟩
        have hge := runN_ge varByteB s k
        have hle := runN_le (P := varByteB) (s := s) (k := k) (by omega)
        have HO : Hid (oneP s k = (⟨3, 0, s.extract k e⟩, e)) := by
          unfold Hid oneP; rw [if_neg n1, if_neg n2, if_pos (by rw [HB.out, h3]), he]
        have HC := hide (fun W => l5RunV_any s k W hs (by omega))
        rw [he] at hge hle HC
        have hge' : ((k : Int) ≤ (e : Int)) := by omega
        have hle' : ((e : Int) ≤ (s.size : Int)) := by omega
        clear he n1 n2
        go_enter Tryz.func21, Tryz.ntmps21
        go_wp2_with (first | (go_at_call 39; refine (l1In_any _ _ _ _).mono ?_; rintro e' w' ⟨rfl, rfl⟩) | (go_at_call 43; refine (l5Large_any _ _ (by omega) (by omega)).mono ?_; rintro e' w' ⟨rfl, rfl⟩) | (go_at_call 42; refine (HC.out _).mono ?_; rintro e' w' ⟨rfl, rfl⟩))
        obtain ⟨d0, d1, d2, -, -, -⟩ := box_cell (box_new w (.int .i64 3) (.int .i64 0) (.string (s.extract k e)) 31)
        exact bodyPost_ret (v := .tuple #[.agg #[.int .i64 3, .int .i64 0, .string (s.extract k e)], .int .i64 (e : Int)]) (by simp [results, Tryz.results21, go_sem, d0, d1, d2]) rfl ⟨ret_one HO.out (by omega), below_al w _⟩
    · obtain ⟨e, he⟩ : ∃ e, runN wordB s k = e := ⟨_, rfl⟩
      have hge := runN_ge wordB s k
      have hle := runN_le (P := wordB) (s := s) (k := k) (by omega)
      have HO : Hid (oneP s k = (⟨2, 0, s.extract k e⟩, e)) := by
        unfold Hid oneP; rw [if_neg n1, if_pos (by rw [HB.out, h2]), he]
      have HC := hide (fun W => l5RunW_any s k W hs (by omega))
      rw [he] at hge hle HC
      have hge' : ((k : Int) ≤ (e : Int)) := by omega
      have hle' : ((e : Int) ≤ (s.size : Int)) := by omega
      clear he n1
      go_enter Tryz.func21, Tryz.ntmps21
      go_wp2_with (first | (go_at_call 39; refine (l1In_any _ _ _ _).mono ?_; rintro e' w' ⟨rfl, rfl⟩) | (go_at_call 43; refine (l5Large_any _ _ (by omega) (by omega)).mono ?_; rintro e' w' ⟨rfl, rfl⟩) | (go_at_call 42; refine (HC.out _).mono ?_; rintro e' w' ⟨rfl, rfl⟩))
      obtain ⟨d0, d1, d2, -, -, -⟩ := box_cell (box_new w (.int .i64 2) (.int .i64 0) (.string (s.extract k e)) 31)
      exact bodyPost_ret (v := .tuple #[.agg #[.int .i64 2, .int .i64 0, .string (s.extract k e)], .int .i64 (e : Int)]) (by simp [results, Tryz.results21, go_sem, d0, d1, d2]) rfl ⟨ret_one HO.out (by omega), below_al w _⟩
  · obtain ⟨e, he⟩ : ∃ e, runN digB s k = e := ⟨_, rfl⟩
    have hge := runN_ge digB s k
    have hle := runN_le (P := digB) (s := s) (k := k) (by omega)
    have HO : Hid (oneP s k = (⟨1, wholeL (s.extract k e).data.toList, ⟨#[]⟩⟩, e)) := by
      unfold Hid oneP; rw [if_pos (by unfold digB; rw [HB.out, h1]), he]
    have HC := hide (fun W => l5Digits_any s k W hs (by omega))
    rw [he] at hge hle HC
    have hge' : ((k : Int) ≤ (e : Int)) := by omega
    have hle' : ((e : Int) ≤ (s.size : Int)) := by omega
    have hxs : (s.extract k e).size ≤ maxLen := by rw [ext_size hle]; unfold maxLen; omega
    clear he
    go_enter Tryz.func21, Tryz.ntmps21
    go_wp2_with (first | (go_at_call 39; refine (l1In_any _ _ _ _).mono ?_; rintro e' w' ⟨rfl, rfl⟩) | (go_at_call 43; refine (l5Large_any _ _ (by omega) (by omega)).mono ?_; rintro e' w' ⟨rfl, rfl⟩) | (go_at_call 40; refine (HC.out _).mono ?_; rintro e' w' ⟨rfl, rfl⟩) | (go_at_call 41; refine (l2Whole_any _ _ hxs).mono ?_; rintro e' w' ⟨rfl, rfl⟩))
    exact bodyPost_ret (v := .tuple #[.agg #[.int .i64 1, .int .i64 (wholeL (s.extract k e).data.toList), .string ⟨#[]⟩], .int .i64 (e : Int)]) (by simp [results, Tryz.results21, go_sem]) rfl ⟨ret_one HO.out (by omega), below_al w _⟩
end Go.Proofs.YtfgcflfnpeapaaaGreatDoor
