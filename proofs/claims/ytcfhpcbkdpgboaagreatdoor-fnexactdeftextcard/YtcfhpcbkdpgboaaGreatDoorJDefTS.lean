/-
  What the model's DefText answers: defT.
-/
import Derived.Test.YtcfhpcbkdpgboaaGreatDoorJDefTI
import Derived.Test.YtcfhpcbkdpgboaaGreatDoorJDefOkS
import Derived.Test.YtcfhpcbkdpgboaaGreatDoorJRuleTS
namespace Go.Proofs.YtcfhpcbkdpgboaaGreatDoor
open Go.RowKit
set_option linter.unusedVariables false

set_option maxRecDepth 100000 in
set_option maxHeartbeats 3200000 in
theorem specDefText_any (x : DE) (w : World) (hr : RdDef w x) (hs : x.small) :
    Calls Tryz.prog 5 #[.agg #[.string x.nm, .slice x.aR x.nR x.cR]] w fun e w' => e = .returned (.string (defT x)) ∧ Below w.heap.size w w' := by
  have b0 := below_al w (.cells #[.string x.nm, .slice x.aR x.nR x.cR] 29)
  have hA0 := boxk_new w #[.string x.nm, .slice x.aR x.nR x.cR] 29
  have HOk := hide (specDefOk_any x (w.alloc (.cells #[.string x.nm, .slice x.aR x.nR x.cR] 29)) (hr.below b0) hs)
  cases hv : defB x
  · rw [defT_no hv]
    rw [hv] at HOk
    go_enter Tryz.func5, Tryz.ntmps5
    go_wp2_with fail
    refine HOk.out.mono ?_
    rintro e w1 ⟨rfl, hb⟩
    have hB : Below w.heap.size w w1 := b0.trans (hb.mono b0.size)
    clear hb HOk hA0 b0
    go_wp2
    go_ret
    exact ⟨rfl, hB⟩
  · obtain ⟨h1, h2, h3, h4⟩ := def_open hv
    rw [hv] at HOk
    have HT := hide (defT_yes hv)
    obtain ⟨tx, htx⟩ : ∃ tx, tx = defT x := ⟨_, rfl⟩
    rw [← htx] at HT ⊢
    have hn12 : x.nR ≤ 12 := h2.2
    clear htx hv h4
    obtain ⟨dn, aR, n, cR, R⟩ := x
    have HZ : Hid (R.length = n) := hr.nr
    have hrr : RdRuleS w aR R := hr.r
    have HS := hide hs.2
    have HA := hide (all_eAt.1 h3)
    simp only at h1 hn12 HS HA hA0 b0 HOk ⊢
    obtain ⟨p, hp⟩ : ∃ p, p = (⟨#[100, 101, 102, 32]⟩ ++ dn ++ ⟨#[46, 10]⟩ : ByteArray) := ⟨_, rfl⟩
    have hps : p.size ≤ 18 := by
      have e1 : (ByteArray.mk #[100, 101, 102, 32]).size = 4 := rfl
      have e2 : (ByteArray.mk #[46, 10]).size = 2 := rfl
      rw [hp]; simp only [ByteArray.size_append, e1, e2]; omega
    have HW : Hid (tx = p ++ catT (R.map RE.txt)) := by unfold Hid; rw [HT.out, hp]; rfl
    have HP := hide hp
    clear hp HT hs hr h3
    have nn1 : ¬ 9223372036854775807 < 4 + dn.size := by omega
    have nm1 : 4 + dn.size ≤ 9223372036854775807 := by omega
    have nn2 : ¬ 9223372036854775807 < 4 + dn.size + 2 := by omega
    have nm2 : 4 + dn.size + 2 ≤ 9223372036854775807 := by omega
    go_enter Tryz.func5, Tryz.ntmps5
    go_wp2_with fail
    refine HOk.out.mono ?_
    rintro e w1 ⟨rfl, hb⟩
    have hB1 : Below w.heap.size w w1 := b0.trans (hb.mono b0.size)
    have HX := hide (box_step hA0 hb)
    have hz1 : w.heap.size < w1.heap.size := Nat.lt_of_lt_of_le (by simp) hb.size
    clear hb HOk hA0 b0
    have a0 := boxk_cell HX.out 0 _ rfl
    have a1 := boxk_cell HX.out 1 _ rfl
    go_wp2
    rw [← HP.out]
    go_loopw [3, 4] (fun v i wr => ∃ (k : Nat), k ≤ n ∧ i = .int .i64 k ∧ v = .string (p ++ catT ((R.take k).map RE.txt)) ∧ Below w1.heap.size w1 wr) (fun _ i _ => n - (intOf i).toNat)
    case atStart => exact ⟨0, Nat.zero_le _, rfl, by show _ = Value.string (p ++ ⟨#[]⟩); rw [app_nil], Below.refl _ _⟩
    case round =>
      clear a0 a1
      obtain ⟨k, hk, rfl, rfl, hbel⟩ := hrel
      have HB := hide (hB1.trans (hbel.mono hB1.size))
      have HX1 := hide (box_below HX.out hbel hz1)
      have a1 := boxk_cell HX1.out 1 _ rfl
      have hus := catT_size (M := 8000) ((R.take k).map RE.txt) (fun t ht => by obtain ⟨q, _, rfl⟩ := List.mem_map.1 ht; exact ruleT_size q)
      rw [List.length_map, List.length_take, HZ.out] at hus
      by_cases hlt : k < n
      · have hlL : k < R.length := by rw [HZ.out]; exact hlt
        obtain ⟨b, off, hab, hbw, hc⟩ := (hrr.below HB.out).cells (by omega)
        obtain ⟨c0, c1, c2, c3, c4, hin⟩ := hc k hlL
        clear hc
        rw [hab] at a1
        clear hab
        have hS := HS.out _ (eAt_mem hlL)
        have hOk := HA.out k hlL
        have hsz := ruleT_size (eAt R k)
        have HTake : Hid (p ++ catT ((R.take k).map RE.txt) ++ (eAt R k).txt = p ++ catT ((R.take (k + 1)).map RE.txt)) := by
          unfold Hid
          rw [List.take_succ_eq_append_getElem hlL, eAt_in hlL, List.map_append, List.map_cons, List.map_nil, catT_snoc, ByteArray.append_assoc]
        obtain ⟨s, hs'⟩ : ∃ s, s = p ++ catT ((R.take k).map RE.txt) := ⟨_, rfl⟩
        have hssz : s.size ≤ 100000 := by rw [hs', ByteArray.size_append]; omega
        rw [← hs'] at HTake ⊢
        have HIn := hide hin
        clear hin hs' hus
        generalize eAt R k = y at c0 c1 c2 c3 c4 HTake hS HIn hOk hsz
        have HY : Hid (ruleW y = y.txt) := (ruleT_yes hOk).symm
        generalize y.txt = ty at HTake HY hsz
        have nn3 : ¬ 9223372036854775807 < s.size + ty.size := by omega
        have nm3 : s.size + ty.size ≤ 9223372036854775807 := by omega
        go_wp2_with fail
        refine (l9Text_any y _ HIn.out hS hOk).mono ?_
        rintro e w2 ⟨rfl, hb2⟩
        rw [HY.out]
        have hbel2 : Below w1.heap.size w1 w2 := hbel.trans (hb2.mono hbel.size)
        clear hb2 hbel a1 c0 c1 c2 c3 c4 HIn HX1 HB
        go_wp2
        go_roundw
        case rel => exact ⟨k + 1, by omega, by go_num, by rw [← HTake.out], hbel2⟩
        case measure => simp [intOf]; omega
      · obtain rfl : k = n := by omega
        have HE : Hid (tx = p ++ catT ((R.take k).map RE.txt)) := by unfold Hid; rw [← HZ.out, List.take_length]; exact HW.out
        go_wp2
        go_ret
        exact ⟨by rw [HE.out]; rfl, HB.out⟩
end Go.Proofs.YtcfhpcbkdpgboaaGreatDoor
