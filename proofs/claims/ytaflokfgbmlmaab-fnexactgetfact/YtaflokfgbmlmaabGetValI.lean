/-
  What the tested reader of values answers: valR; nothing that was there has turned.
-/
import Derived.Test.YtaflokfgbmlmaabValR
import Derived.Test.YtaflokfgbmlmaabBox
import Derived.Test.YtaflokfgbmlmaabGetTextI
import Derived.Handy
namespace Go.Proofs.Ytaflokfgbmlmaab
open Go.RowKit
set_option linter.unusedVariables false

set_option maxHeartbeats 1600000 in
theorem implGetVal_any (a : Option Addr) (cap : Nat) (x : Int) (bs : List UInt8) (w : World) (hr : Rd w a bs) (hn : bs.length ≤ 1048580) (hcap : bs.length ≤ cap) (ha : a = none → bs.length = 0 ∧ cap = 0) :
    Calls Try.prog 95 #[.slice a bs.length cap, .int .i64 x] w fun e w' =>
      e = .returned (valT (valR bs x)) ∧ Below w.heap.size w w' := by
  have hr1 : ∀ o, Rd (w.alloc o) a bs := fun o => hr.below ((Below.refl _ _).alloc (Nat.le_refl _) _)
  have hr2 : ∀ o o', Rd ((w.alloc o).alloc o') a bs := fun o o' => (hr1 o).below ((Below.refl _ _).alloc (Nat.le_refl _) _)
  have HR1 := hide hr1
  have HR2 := hide hr2
  clear hr1 hr2 hr
  cases hok : (numR bs x).2.2
  · have HV := hide (valR_no hok)
    have HN := hide (numR_false hok)
    clear hok
    go_enter Try.func95, Try.ntmps95
    go_wp2_with fail
    refine (implGetNum_any a cap x bs _ (HR1.out _) hn hcap ha).mono ?_
    rw [HN.out]
    rintro e w1 ⟨rfl, rfl⟩
    go_wp2
    go_returns
    exact ⟨ret_val HV.out, by go_grown⟩
  · obtain ⟨k, p, hkp⟩ : ∃ k p, numR bs x = (k, p, true) := ⟨(numR bs x).1, (numR bs x).2.1, Prod.ext rfl (Prod.ext rfl hok)⟩
    clear hok
    by_cases hk : k = 1
    · subst hk
      obtain ⟨n, q, b, h2⟩ : ∃ n q b, numR bs p = (n, q, b) := ⟨_, _, _, rfl⟩
      have HV := hide (valR_num hkp h2)
      have HN := hide hkp
      have HN2 := hide h2
      clear hkp h2
      go_enter Try.func95, Try.ntmps95
      go_wp2_with fail
      refine (implGetNum_any a cap x bs _ (HR1.out _) hn hcap ha).mono ?_
      rw [HN.out]
      rintro e w1 ⟨rfl, rfl⟩
      go_wp2_with fail
      refine (implGetNum_any a cap p bs _ (HR2.out _ _) hn hcap ha).mono ?_
      rw [HN2.out]
      rintro e w1 ⟨rfl, rfl⟩
      have hs0 : (ByteArray.mk #[]).size = 0 := rfl
      cases b
      · have HV2 : Hid (valR bs x = (0, 0, ⟨#[]⟩, 0, false)) := by unfold Hid; rw [HV.out]; rfl
        clear HV
        go_wp2
        go_returns
        exact ⟨ret_val HV2.out, by go_grown⟩
      · skip
        go_wp2_with fail
        refine (implValOk_any 1 n ⟨#[]⟩ _ (by decide)).mono ?_
        rintro e w1 ⟨rfl, hb⟩
        have HR := hide (box_below (box_old (box_new w (.int .i64 0) (.int .i64 0) (.string ⟨#[]⟩) 63) (by simp) (.cells #[.int .i64 1, .int .i64 n, .string ⟨#[]⟩] 63)) hb (by simp; omega))
        have HB := hide (box_below (box_new (w.alloc (.cells #[.int .i64 0, .int .i64 0, .string ⟨#[]⟩] 63)) (.int .i64 1) (.int .i64 n) (.string ⟨#[]⟩) 63) hb (by simp))
        have hB1 : Below w.heap.size w w1 := (((Below.refl w.heap.size w).alloc (Nat.le_refl _) _).alloc (by simp) _).trans (hb.mono (by simp; omega))
        simp only [World.size_alloc] at HR HB
        clear hb
        cases hv : valB 1 n ⟨#[]⟩
        · have HV2 : Hid (valR bs x = (0, 0, ⟨#[]⟩, 0, false)) := by unfold Hid; rw [HV.out, hv]; rfl
          clear HV hv
          obtain ⟨c0, c1, c2, f0, f1, f2⟩ := box_cell HR.out
          go_wp2
          refine box_post HR.out (fun w4 h4 gr => ?_)
          clear c0 c1 c2 f0 f1 f2
          obtain ⟨c0, c1, c2, -, -, -⟩ := box_cell h4
          refine bodyPost_ret (v := valT (0, 0, ⟨#[]⟩, 0, false)) (by simp [results, Try.results95, go_sem, c0, c1, c2, valT]) rfl ⟨ret_val HV2.out, below_set hB1 gr (by omega)⟩
        · have HV2 : Hid (valR bs x = (1, n, ⟨#[]⟩, q, true)) := by unfold Hid; rw [HV.out, hv]; rfl
          clear HV hv
          obtain ⟨c0, c1, c2, f0, f1, f2⟩ := box_cell HR.out
          obtain ⟨d0, d1, d2, -, -, -⟩ := box_cell HB.out
          go_wp2
          refine box_post HR.out (fun w4 h4 gr => ?_)
          clear c0 c1 c2 f0 f1 f2
          obtain ⟨c0, c1, c2, -, -, -⟩ := box_cell h4
          refine bodyPost_ret (v := valT (1, n, ⟨#[]⟩, q, true)) (by simp [results, Try.results95, go_sem, c0, c1, c2, valT]) rfl ⟨ret_val HV2.out, below_set hB1 gr (by omega)⟩
    · obtain ⟨s, q, b, h2⟩ : ∃ s q b, textR bs p = (s, q, b) := ⟨_, _, _, rfl⟩
      have hs : s.size ≤ bs.length := by have := textR_size bs p; rw [h2] at this; exact this
      have HV := hide (valR_text hkp hk h2)
      have HN := hide hkp
      have HN2 := hide h2
      have hk1 : (k == 1) = false := by simpa using hk
      clear hkp h2 hk
      go_enter Try.func95, Try.ntmps95
      go_wp2_with fail
      refine (implGetNum_any a cap x bs _ (HR1.out _) hn hcap ha).mono ?_
      rw [HN.out]
      rintro e w1 ⟨rfl, rfl⟩
      go_wp2_with fail
      refine (implGetText_any a cap p bs _ (HR2.out _ _) hn hcap ha).mono ?_
      rw [HN2.out]
      rintro e w1 ⟨rfl, rfl⟩
      cases b
      · have HV2 : Hid (valR bs x = (0, 0, ⟨#[]⟩, 0, false)) := by unfold Hid; rw [HV.out]; rfl
        clear HV
        go_wp2
        go_returns
        exact ⟨ret_val HV2.out, by go_grown⟩
      · skip
        go_wp2_with fail
        refine (implValOk_any k 0 s _ (by unfold maxLen; omega)).mono ?_
        rintro e w1 ⟨rfl, hb⟩
        have HR := hide (box_below (box_old (box_new w (.int .i64 0) (.int .i64 0) (.string ⟨#[]⟩) 63) (by simp) (.cells #[.int .i64 k, .int .i64 0, .string s] 63)) hb (by simp; omega))
        have HB := hide (box_below (box_new (w.alloc (.cells #[.int .i64 0, .int .i64 0, .string ⟨#[]⟩] 63)) (.int .i64 k) (.int .i64 0) (.string s) 63) hb (by simp))
        have hB1 : Below w.heap.size w w1 := (((Below.refl w.heap.size w).alloc (Nat.le_refl _) _).alloc (by simp) _).trans (hb.mono (by simp; omega))
        simp only [World.size_alloc] at HR HB
        clear hb
        cases hv : valB k 0 s
        · have HV2 : Hid (valR bs x = (0, 0, ⟨#[]⟩, 0, false)) := by unfold Hid; rw [HV.out, hv]; rfl
          clear HV hv
          obtain ⟨c0, c1, c2, f0, f1, f2⟩ := box_cell HR.out
          go_wp2
          refine box_post HR.out (fun w4 h4 gr => ?_)
          clear c0 c1 c2 f0 f1 f2
          obtain ⟨c0, c1, c2, -, -, -⟩ := box_cell h4
          refine bodyPost_ret (v := valT (0, 0, ⟨#[]⟩, 0, false)) (by simp [results, Try.results95, go_sem, c0, c1, c2, valT]) rfl ⟨ret_val HV2.out, below_set hB1 gr (by omega)⟩
        · have HV2 : Hid (valR bs x = (k, 0, s, q, true)) := by unfold Hid; rw [HV.out, hv]; rfl
          clear HV hv
          obtain ⟨c0, c1, c2, f0, f1, f2⟩ := box_cell HR.out
          obtain ⟨d0, d1, d2, -, -, -⟩ := box_cell HB.out
          go_wp2
          refine box_post HR.out (fun w4 h4 gr => ?_)
          clear c0 c1 c2 f0 f1 f2
          obtain ⟨c0, c1, c2, -, -, -⟩ := box_cell h4
          refine bodyPost_ret (v := valT (k, 0, s, q, true)) (by simp [results, Try.results95, go_sem, c0, c1, c2, valT]) rfl ⟨ret_val HV2.out, below_set hB1 gr (by omega)⟩
end Go.Proofs.Ytaflokfgbmlmaab
