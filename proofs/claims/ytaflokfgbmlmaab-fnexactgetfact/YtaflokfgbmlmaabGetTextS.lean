/-
  What the model's reader of texts answers: textR, in the world as it was.
-/
import Derived.Test.YtaflokfgbmlmaabTextR
import Derived.Test.YtaflokfgbmlmaabGetNum
namespace Go.Proofs.Ytaflokfgbmlmaab
open Go.RowKit
set_option linter.unusedVariables false

set_option maxHeartbeats 1600000 in
theorem specGetText_any (a : Option Addr) (cap : Nat) (x : Int) (bs : List UInt8) (w : World) (hr : Rd w a bs) (hn : bs.length ≤ 1048580) (hcap : bs.length ≤ cap) :
    Calls Try.prog 55 #[.slice a bs.length cap, .int .i64 x] w fun e w' =>
      e = .returned (.tuple #[.string (textR bs x).1, .int .i64 (textR bs x).2.1, .bool (textR bs x).2.2]) ∧ w' = w := by
  have HC := specGetNum_any a cap x bs w hr hn
  have HT := hide (@numR_true bs x)
  have HNo := hide (@textR_no bs x)
  have HYes := hide (textR_yes bs x)
  generalize (numR bs x).1 = r1 at HC HT HNo HYes
  generalize (numR bs x).2.1 = r2 at HC HT HNo HYes
  generalize (numR bs x).2.2 = r3 at HC HT HNo HYes
  cases r3 with
  | false =>
    have HR := hide (HNo.out (Or.inl rfl))
    go_enter Try.func55, Try.ntmps55
    go_wp2_with fail
    refine HC.mono ?_
    rintro e w' ⟨rfl, rfl⟩
    go_wp2
    go_ret3
    exact ⟨ret_text HR.out, rfl⟩
  | true =>
    obtain ⟨hx0, hx1, hx2⟩ := HT.out rfl
    by_cases hneg : r1 < 0
    · have HR := hide (HNo.out (Or.inr (Or.inl hneg)))
      go_enter Try.func55, Try.ntmps55
      go_wp2_with fail
      refine HC.mono ?_
      rintro e w' ⟨rfl, rfl⟩
      go_wp2
      go_ret3
      exact ⟨ret_text HR.out, rfl⟩
    · by_cases hbig : (bs.length : Int) - r2 < r1
      · have HR := hide (HNo.out (Or.inr (Or.inr hbig)))
        go_enter Try.func55, Try.ntmps55
        go_wp2_with fail
        refine HC.mono ?_
        rintro e w' ⟨rfl, rfl⟩
        go_wp2
        go_ret3
        exact ⟨ret_text HR.out, rfl⟩
      · obtain ⟨P, rfl⟩ := Int.eq_ofNat_of_zero_le (show 0 ≤ r2 by omega)
        obtain ⟨N, rfl⟩ := Int.eq_ofNat_of_zero_le (show 0 ≤ r1 by omega)
        have HR := hide (HYes.out P N (fun h => by rcases h with h | h | h; exact Bool.noConfusion h; exact hneg h; exact hbig h) rfl rfl)
        have hPN : P + N ≤ bs.length := by omega
        obtain ⟨b, off, rfl, _, hc⟩ := hr.open (by omega)
        have HCL := hide hc
        clear hc HNo HYes HT
        by_cases hend : P < cap
        · have hcv : ∀ c', (convert 44 9 (.slice (some ⟨b, off + P, none⟩) N c')).run Try.prog w = .ok (.string ⟨((bs.drop P).take N).toArray⟩) w := by
            intro c'
            exact conv_part (by omega) HCL.out c'
          generalize ((bs.drop P).take N).toArray = S at hcv HR
          go_enter Try.func55, Try.ntmps55
          go_wp2_with fail
          refine HC.mono ?_
          rintro e w' ⟨rfl, rfl⟩
          go_wp2
          go_ret3
          exact ⟨ret_text HR.out, rfl⟩
        · obtain rfl : N = 0 := by omega
          have hcv : ∀ c', (convert 44 9 (.slice (some ⟨b, off, none⟩) 0 c')).run Try.prog w = .ok (.string ⟨#[]⟩) w := by
            intro c'
            exact conv_part (bs := bs) (P := 0) (N := 0) (by omega) HCL.out c'
          go_enter Try.func55, Try.ntmps55
          go_wp2_with fail
          refine HC.mono ?_
          rintro e w' ⟨rfl, rfl⟩
          go_wp2
          go_ret3
          exact ⟨ret_text (by rw [HR.out]; simp), rfl⟩

end Go.Proofs.Ytaflokfgbmlmaab
