/-
  What the model's function on a token's text answers: tokL, its bytes.
-/
import Derived.Test.YtfgcflfnpeapaaaGreatDoorTokP
import Derived.Test.YtfgcflfnpeapaaaGreatDoorTokS
import Derived.Test.YtfgcflfnpeapaaaGreatDoorL2Num
namespace Go.Proofs.YtfgcflfnpeapaaaGreatDoor
open Go.RowKit
set_option linter.unusedVariables false

theorem quoted (S : ByteArray) : (⟨#[39]⟩ ++ S ++ ⟨#[39]⟩ : ByteArray) = ⟨(39 :: S.data.toList ++ [39]).toArray⟩ := by
  apply ByteArray.ext
  apply Array.ext'
  simp [ByteArray.data_append]
theorem str_mk (S : ByteArray) : (⟨S.data.toList.toArray⟩ : ByteArray) = S := by cases S; simp

set_option maxRecDepth 100000 in
set_option maxHeartbeats 1600000 in
theorem specTokenText_any (K N : Int) (S : ByteArray) (w : World) (hs : S.size ≤ maxLen) :
    Calls Tryz.prog 25 #[.agg #[.int .i64 K, .int .i64 N, .string S]] w fun e w' => e = .returned (.string ⟨(tokL K N S).toArray⟩) ∧ Below w.heap.size w w' := by
  have hX := box_new w (.int .i64 K) (.int .i64 N) (.string S) 31
  have b0 := below_al w (.cells #[.int .i64 K, .int .i64 N, .string S] 31)
  go_enter Tryz.func25, Tryz.ntmps25
  go_wp2_with fail
  refine (specTokenOk_any K N S _ hs).mono ?_
  rintro e w1 ⟨rfl, g1⟩
  have hb : Below (w.alloc (.cells #[.int .i64 K, .int .i64 N, .string S] 31)).heap.size _ w1 := (Below.refl _ _).grown g1 (Nat.le_refl _) (fun k hk => by cases hk)
  have HA := hide (box_below hX hb (by simp))
  have hb1 : Below w.heap.size w w1 := b0.trans (hb.mono b0.size)
  clear hb g1 hX b0
  cases hv : tokB K N S
  · have HV := hide (tokL_no hv)
    clear hv
    go_wp2
    go_ret
    exact ⟨by rw [HV.out]; rfl, hb1⟩
  · obtain ⟨a0, a1, a2, -, -, -⟩ := box_cell HA.out
    have hS := tokB_le hv
    by_cases h1 : K = 1
    · subst h1
      have HV := hide (tokL_num hv)
      have hr := tokB_range hv
      clear hv
      go_wp2_with fail
      refine (l2Num_any N _ (by omega) (by omega)).mono ?_
      rintro e w2 ⟨s, rfl, hs2, HS, hb2⟩
      have hb3 : Below w.heap.size w w2 := hb1.trans (hb2.mono hb1.size)
      clear hb2 a0 a1 a2 HA
      go_wp2
      go_ret
      exact ⟨by rw [HV.out, ← HS.out]; rfl, hb3⟩
    · have k1 : (K == 1) = false := by simpa using h1
      by_cases h4 : K = 4
      · subst h4
        have HV := hide (tokL_text hv)
        have HQ := hide (quoted S)
        have hc1 : (ByteArray.mk #[39]).size = 1 := rfl
        clear hv h1
        go_wp2
        go_ret
        exact ⟨by rw [HV.out, ← HQ.out]; rfl, hb1⟩
      · have k4 : (K == 4) = false := by simpa using h4
        have HV := hide (tokL_word hv h1 h4)
        clear hv h1 h4
        go_wp2
        go_ret
        exact ⟨by rw [HV.out, str_mk]; rfl, hb1⟩
end Go.Proofs.YtfgcflfnpeapaaaGreatDoor
