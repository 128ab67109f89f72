/-
  What the tested writer of values makes: a row of the call's own that holds the bytes, and behind them encV of the value; nothing that was there has turned.
-/
import Derived.Test.YtofdbnkeddcdjaaDoorEncV
import Derived.Test.YtofdbnkeddcdjaaDoorAddText
import Derived.Test.YtofdbnkeddcdjaaDoorBox
import Derived.Test.YtofdbnkeddcdjaaDoorOwnD
import Derived.Handy
import Derived.Deep.RegionHeld3
namespace Go.Proofs.YtofdbnkeddcdjaaDoor
open Go.RowKit
set_option linter.unusedVariables false

theorem bcellB {B : Nat} {W w1 : World} (hb : Below B W w1) : ∀ b o, b < B → w1.cell? ⟨b, o, none⟩ = W.cell? ⟨b, o, none⟩ := fun b o h => hb.cell (p := ⟨b, o, none⟩) h

set_option maxHeartbeats 1600000 in
theorem addVal_any (v : Value) (len base : Nat) (K N : Int) (S : ByteArray) (bs : List UInt8) (w : World) (hown : w.ownsRow base 5 1 v len (vals bs)) (hbase : base ≤ w.heap.size) (hn : bs.length ≤ 33554000) (hs : S.size ≤ 1048580) :
    Calls Tryd.prog 27 #[v, .agg #[.int .i64 K, .int .i64 N, .string S]] w fun e w' =>
      ∃ v', e = .returned v' ∧ w'.ownsRow base 5 1 v' (bs ++ encV K N S).length (vals (bs ++ encV K N S)) ∧ Below base w w' := by
  have hl := encN_length K
  by_cases hK : K = 1
  · subst hK
    have HE := hide (encV_num N S)
    obtain ⟨E, HE1⟩ : ∃ E, Hid (bs ++ encN 1 = E) := ⟨_, rfl⟩
    have hE : E.length ≤ bs.length + 6 := by rw [← HE1.out]; simp; omega
    have HJ : Hid (E ++ encN N = bs ++ encV 1 N S) := by unfold Hid; rw [← HE1.out, HE.out, List.append_assoc]
    clear HE hl
    go_enter Tryd.func27, Tryd.ntmps27
    go_wp2_with fail
    refine (putNums_one _ len base (w.heap.size + 1) 1 bs _ ((hown.alloc _).alloc _) (by simp; omega) (by omega) (by simp)).mono ?_
    rintro e w1 ⟨v1, rfl, ho1, hb1, ht1⟩
    rw [HE1.out] at ho1
    have HA := hide (ht1 _ _ _ _ (by decide) (box_old (box_new w (.int .i64 1) (.int .i64 N) (.string S) 25) (by simp) (.cells #[.int .i64 1] 3)))
    have hB1 : Below base w w1 := (((Below.refl base w).alloc hbase _).alloc (by simp; omega) _).trans hb1
    have hz1 : base ≤ w1.heap.size := Nat.le_trans hbase hB1.size
    clear hb1 ht1 hown
    obtain ⟨a0, a1, a2, -, -, -⟩ := box_cell HA.out
    clear HA
    go_wp2_with fail
    refine (putNums_one _ _ base w1.heap.size N E _ (ho1.alloc _) (by simp; omega) (by omega) (by simp)).mono ?_
    rintro e w2 ⟨v2, rfl, ho2, hb2, -⟩
    rw [HJ.out] at ho2
    have hB2 : Below base w w2 := (hB1.alloc hz1 _).trans hb2
    clear hb2 ho1 a0 a1 a2
    go_wp2
    go_ret
    exact ⟨_, rfl, ho2, hB2⟩
  · have HE := hide (encV_text N S hK)
    have hk : (K == 1) = false := by simpa using hK
    clear hK
    obtain ⟨E, HE1⟩ : ∃ E, Hid (bs ++ encN K = E) := ⟨_, rfl⟩
    have hE : E.length ≤ bs.length + 6 := by rw [← HE1.out]; simp; omega
    have HJ : Hid (E ++ encT S = bs ++ encV K N S) := by unfold Hid; rw [← HE1.out, HE.out, List.append_assoc]
    clear HE hl
    go_enter Tryd.func27, Tryd.ntmps27
    go_wp2_with fail
    refine (putNums_one _ len base (w.heap.size + 1) K bs _ ((hown.alloc _).alloc _) (by simp; omega) (by omega) (by simp)).mono ?_
    rintro e w1 ⟨v1, rfl, ho1, hb1, ht1⟩
    rw [HE1.out] at ho1
    have HA := hide (ht1 _ _ _ _ (by decide) (box_old (box_new w (.int .i64 K) (.int .i64 N) (.string S) 25) (by simp) (.cells #[.int .i64 K] 3)))
    have hB1 : Below base w w1 := (((Below.refl base w).alloc hbase _).alloc (by simp; omega) _).trans hb1
    have hz1 : base ≤ w1.heap.size := Nat.le_trans hbase hB1.size
    clear hb1 ht1 hown
    obtain ⟨a0, a1, a2, -, -, -⟩ := box_cell HA.out
    clear HA
    go_wp2_with fail
    refine (addText_any _ _ base S E _ ho1 hz1 (by omega) hs).mono ?_
    rintro e w2 ⟨v2, rfl, ho2, hb2, -⟩
    rw [HJ.out] at ho2
    have hB2 : Below base w w2 := hB1.trans hb2
    clear hb2 ho1 a0 a1 a2
    go_wp2
    go_ret
    exact ⟨_, rfl, ho2, hB2⟩

theorem copyWithRoom_b (a : Option Addr) (cap room B : Nat) (r : Int) (bs : List UInt8) (w : World) (hr : Rd w a bs) (hn : bs.length ≤ 33554432) (hm : room ≤ 33554432) (h : r = (room : Int)) (hB : w.heap.size = B) :
    Calls Tryd.prog 28 #[.slice a bs.length cap, .int .i64 r] w fun e w' =>
      ∃ v, e = .returned v ∧ w'.ownsRow B 5 1 v bs.length (vals bs) ∧ Below B w w' ∧ B ≤ w'.heap.size := by
  subst h hB
  exact (copyWithRoom_any a cap room bs w hr hn hm).mono fun e w' h => ⟨_, h.1, h.2.1, h.2.2, h.2.2.size⟩

set_option maxHeartbeats 1600000 in
theorem implPutVal_any (a : Option Addr) (cap : Nat) (K N : Int) (S : ByteArray) (bs : List UInt8) (w : World) (hr : Rd w a bs) (hn : bs.length ≤ 1048580) (hs : S.size ≤ 1048580) :
    Calls Tryd.prog 11 #[.slice a bs.length cap, .agg #[.int .i64 K, .int .i64 N, .string S]] w fun e w' =>
      ∃ v, e = .returned v ∧ w'.ownsRow w.heap.size 5 1 v (bs ++ encV K N S).length (vals (bs ++ encV K N S)) ∧ Below w.heap.size w w' := by
  have hr1 : Rd (w.alloc (.cells #[.int .i64 K, .int .i64 N, .string S] 25)) a bs := hr.below ((Below.refl _ _).alloc (Nat.le_refl _) _)
  go_enter Tryd.func11, Tryd.ntmps11
  go_wp2_with fail
  go_region_held3 (fun w' => w'.cell? ⟨w.heap.size, 0, none⟩ = some (.int .i64 K) ∧ w'.cell? ⟨w.heap.size, 1, none⟩ = some (.int .i64 N) ∧ w'.cell? ⟨w.heap.size, 2, none⟩ = some (.string S)) (go_keep)
    (first | (go_at_call 28; refine (copyWithRoom_b a cap (10 + S.size) (w.heap.size + 1) _ bs _ ?_ (by omega) (by omega) (by rw [IntKind.wrap_i64]; omega) (by simp)).mono ?_; exact hr1; rintro e w1 ⟨v1, rfl, ho1, hb1, hz1⟩; have hc1 := bcellB hb1) | (go_at_call 27; refine (addVal_any v1 bs.length (w.heap.size + 1) K N S bs _ ?_ ?_ (by omega) hs).mono ?_; exact ho1; exact hz1; rintro e w2 ⟨v2, rfl, ho2, hb2⟩; have hc2 := bcellB hb2))
  have hB1 : Below w.heap.size w w1 := (((Below.refl w.heap.size w).alloc (Nat.le_refl _) _).drew).trans (hb1.mono (by omega))
  have hB2 : Below w.heap.size w w2 := hB1.trans (hb2.mono (by omega))
  have HO := hide (ownsRow_base ho2 (show w.heap.size ≤ w.heap.size + 1 by omega))
  clear hc1 hc2 ho2 ho1 hb1 hb2
  go_wp2
  go_ret
  exact ⟨_, rfl, HO.out, hB2⟩
end Go.Proofs.YtofdbnkeddcdjaaDoor
