/-
  What the tested sameness of facts answers: sameF.
-/
import Derived.Test.YtaflokfgbmlmaadDoorJoined4
import Derived.Test.YtaflokfgbmlmaadDoorJSame3
namespace Go.Proofs.YtaflokfgbmlmaadDoor
open Go.RowKit
set_option linter.unusedVariables false

set_option maxRecDepth 100000 in
set_option maxHeartbeats 1600000 in
theorem implSameFact_any (kd kd' : ByteArray) (a b : Option Addr) (ca cb : Nat) (L M : List V3) (w : World) (hr : RdV w a L) (hq : RdV w b M) (hn : L.length ≤ 1048580) (hm : M.length ≤ 1048580) (hla : LiesV a L.length ca) (hlb : LiesV b M.length cb) :
    Calls Tryd.prog 24 #[.agg #[.string kd, .slice a L.length ca], .agg #[.string kd', .slice b M.length cb]] w fun e w' =>
      e = .returned (.bool (sameF kd L kd' M)) ∧ Below w.heap.size w w' := by
  by_cases hlm : L.length = M.length
  · obtain ⟨v0, v1, v2, v3, v4, hpL⟩ := list5 (pad5_length L)
    obtain ⟨u0, u1, u2, u3, u4, hpM⟩ := list5 (pad5_length M)
    have HE := pad5_inj hlm
    rw [hpL, hpM] at HE
    have hl2 : ((L.length : Int) == (M.length : Int)) = true := by simp [hlm]
    cases h1 : (kd.toList == kd'.toList)
    · have HF : sameF kd L kd' M = false := by
        unfold sameF
        rw [decide_eq_false (fun e => by rw [e] at h1; simp at h1)]; rfl
      rw [HF]
      exact implSame_kind kd kd' a b ca cb L M v0 v1 v2 v3 v4 u0 u1 u2 u3 u4 w hr hq hn hm hla hlb hpL hpM hl2 h1
    · have HK : sameF kd L kd' M = decide (L = M) := by
        unfold sameF
        rw [decide_eq_true (toList_inj (by simpa using h1))]; rfl
      have hq5 := eq15 v0 v1 v2 v3 v4 u0 u1 u2 u3 u4
      cases hd : decide ([v0, v1, v2, v3, v4] = [u0, u1, u2, u3, u4])
      · rw [hd] at hq5
        rw [HK, decide_eq_false (fun e => absurd (HE.2 e).1 (of_decide_eq_false hd))]
        exact implSame_five kd kd' a b ca cb L M v0 v1 v2 v3 v4 u0 u1 u2 u3 u4 w hr hq hn hm hla hlb hpL hpM hl2 h1 hq5
      · rw [hd] at hq5
        have h5 := of_decide_eq_true hd
        rw [HK, show decide (L = M) = decide (L.drop 5 = M.drop 5) from decide_eq_decide.2 ⟨fun e => (HE.2 e).2, fun e => HE.1 ⟨h5, e⟩⟩]
        exact implSame_all kd kd' a b ca cb L M v0 v1 v2 v3 v4 u0 u1 u2 u3 u4 w hr hq hn hm hla hlb hpL hpM hl2 h1 hq5
  · have hl2 : ((L.length : Int) == (M.length : Int)) = false := by simp; omega
    have HF : Hid (sameF kd L kd' M = false) := by
      unfold Hid sameF
      rw [decide_eq_false (p := L = M) (fun e => hlm (by rw [e])), Bool.and_false]
    have b0 := below_al w (.cells #[.string kd, .slice a L.length ca] 41)
    have b1 := b0.alloc b0.size (.cells #[.string kd', .slice b M.length cb] 41)
    have T1 : Two w w.heap.size a b L M ((w.alloc (.cells #[.string kd, .slice a L.length ca] 41)).alloc (.cells #[.string kd', .slice b M.length cb] 41)) := ⟨hr.below b1, hq.below b1, b1, b1.size⟩
    have hX := box_old (box2_new w (.string kd) (.slice a L.length ca) 41) (by simp) (.cells #[.string kd', .slice b M.length cb] 41)
    have hY := box2_new (w.alloc (.cells #[.string kd, .slice a L.length ca] 41)) (.string kd') (.slice b M.length cb) 41
    simp only [World.size_alloc] at hX hY
    obtain ⟨x0, x1, -, -⟩ := box2_cell hX
    obtain ⟨y0, y1, -, -⟩ := box2_cell hY
    clear hX hY b0 b1 hr hq
    clear hlm hla hlb
    go_enter Tryd.func24, Tryd.ntmps24
    go_wp2_with fail
    generalize (w.alloc (.cells #[.string kd, .slice a L.length ca] 41)).alloc (.cells #[.string kd', .slice b M.length cb] 41) = w1 at x0 x1 y0 y1 T1 ⊢
    go_quiet (fail)
    go_wp2
    go_ret
    exact ⟨ret_bool HF.out.symm, T1.2.2.1.trans (show Below w.heap.size w1 (w1.drewN _) from ⟨rfl, rfl, rfl, Nat.le_refl _, fun _ _ => rfl⟩)⟩
end Go.Proofs.YtaflokfgbmlmaadDoor
