/-
  What the writers of numbers make: a row of the call's own that holds the bytes, and behind them encN of the number; nothing that was there has turned.
-/
import Derived.Test.YtofdbnkeddcdjaaDoorEnc
import Derived.Test.YtofdbnkeddcdjaaDoorBytes
import Derived.Laws.AppendOwnNone
import Derived.Laws.CopyOwn
import Derived.Laws.Bits128
namespace Go.Proofs.YtofdbnkeddcdjaaDoor
open Go.RowKit
set_option linter.unusedVariables false

set_option maxRecDepth 100000 in
set_option maxHeartbeats 1600000 in
theorem specPutNum_some (p : Addr) (cap : Nat) (n : Int) (bs : List UInt8) (w : World) (hr : Rd w (some p) bs) (hn : bs.length ≤ 33554400) :
    Calls Tryd.prog 51 #[.slice (some p) bs.length cap, .int .i64 n] w fun e w' =>
      ∃ v, e = .returned v ∧ w'.ownsRow w.heap.size 5 1 v (bs ++ encN n).length (vals (bs ++ encN n)) ∧ Below w.heap.size w w' := by
  obtain ⟨i0, hi, hz0, hz1, hz2⟩ := info_parts Tryd.info5
  have HE : Hid (encN n = encG 5 (foldN (clampN n))) := rfl
  have HF := hide (foldN_le (clampN_in n))
  rcases fold_cases n with ⟨h1, h2⟩ | ⟨h1, h2⟩ | ⟨⟨h0, h1⟩, h2⟩ | ⟨⟨h0, h1⟩, h2⟩
  all_goals
    have HC := hide h2
    clear h2
    go_enter Tryd.func51, Tryd.ntmps51
    go_wp2_with (at_builtin; refine wpList_append_own _ rfl (.tmp 7) (.tmp 8) 22 rfl w.heap.size 5 i0 (.int .u8 0) 1 1 Tryd.underlying22 hi hz0 hz1 hz2 rfl (by decide) _ 0 [] rfl (World.ownsRow_made w #[] 0 (Nat.le_refl _) (Nat.zero_le _) rfl) p bs.length cap (vals bs) rfl (by rw [vals_length]; omega) (fun j u hj => rd_cells (hr.below ((Below.refl _ _).alloc (Nat.le_refl _) _)) j u hj) (vals_one bs) (by unfold maxLen; omega) (by omega) (by simp) ?_)
    intro v1 w1 hown1 hgrow1 _
    have hb1 : Below w.heap.size w w1 := ((Below.refl _ _).alloc (Nat.le_refl _) _).grown hgrow1 (by simp) (fun k hk => by simp [Value.ownBlock] at hk; omega)
    clear hgrow1
    go_wp2
    go_loopw [5, 6] (fun out mm wr => ∃ (m f : Nat) (pre : List UInt8), mm = .int .i64 m ∧ m < 128 ^ f ∧ m ≤ 2000000000 ∧ pre ++ encG f m = encN n ∧ wr.ownsRow w.heap.size 5 1 out (bs.length + pre.length) (vals (bs ++ pre)) ∧ Below w.heap.size w wr)
      (fun _ mm _ => (intOf mm).toNat)
    case atStart =>
      refine ⟨foldN (clampN n), 5, [], ?_, Nat.lt_of_le_of_lt HF.out (by decide), HF.out, HE.out.symm, by simpa using hown1, hb1⟩
      rw [HC.out]
    case round =>
      obtain ⟨m, f, pre, rfl, hm, hm2, hp, hown, hbel⟩ := hrel
      have HM := hide hm
      have HP := hide hp
      have hpl := pre_length hp
      clear hm hp
      by_cases hlt : m < 128
      · have HZ : Hid (vals (bs ++ pre) ++ [Value.int .u8 (m : Int)] = vals (bs ++ encN n) ∧ bs.length + pre.length + 1 = (bs ++ encN n).length) := by
          refine ⟨?_, ?_⟩
          · rw [vals_last hlt, ← vals_append, ← HP.out, encG_small hlt, List.append_assoc]
          · rw [← HP.out, encG_small hlt]; simp; omega
        go_wp2_with (at_builtin; refine wpList_append_own _ rfl (.tmp 32) (.tmp 35) 22 rfl w.heap.size 5 i0 (.int .u8 0) 1 1 Tryd.underlying22 hi hz0 hz1 hz2 rfl (by decide) _ _ _ rfl (hown.alloc _) ⟨wr.heap.size, 0, none⟩ 1 1 [.int .u8 (m : Int)] rfl rfl (one_cell _ _ _) (by intro u hu; simp at hu; subst hu; rfl) (by unfold maxLen; omega) (by omega) (by have := hbel.size; simp; omega) ?_)
        intro v2 w2 hown2 hgrow2 _
        rw [HZ.out.1, HZ.out.2] at hown2
        have hb2 : Below w.heap.size w w2 := (hbel.alloc hbel.size _).grown hgrow2 (by have := hbel.size; simp; omega) (fun k hk => (hown.lt k hk).1)
        clear hgrow2 hown
        go_wp2
        go_ret
        exact ⟨_, rfl, hown2, hb2⟩
      · obtain ⟨g, rfl, hg1, hg2⟩ := enc_step hlt HM.out
        have HG := hide hg2
        have h127 := i64_and127 (m : Int)
        have h128 := or128 m
        clear hg2
        go_wp2_with (at_builtin; refine wpList_append_own _ rfl (.tmp 23) (.tmp 28) 22 rfl w.heap.size 5 i0 (.int .u8 0) 1 1 Tryd.underlying22 hi hz0 hz1 hz2 rfl (by decide) _ _ _ rfl (hown.alloc _) ⟨wr.heap.size, 0, none⟩ 1 1 [.int .u8 ((m : Int) % 128 + 128)] rfl rfl (one_cell _ _ _) (by intro u hu; simp at hu; subst hu; rfl) (by unfold maxLen; omega) (by omega) (by have := hbel.size; simp; omega) ?_)
        intro v2 w2 hown2 hgrow2 _
        rw [vals_cont m, ← vals_append] at hown2
        have hb2 : Below w.heap.size w w2 := (hbel.alloc hbel.size _).grown hgrow2 (by have := hbel.size; simp; omega) (fun k hk => (hown.lt k hk).1)
        clear hgrow2 hown
        go_wp2
        go_roundw
        case rel =>
          refine ⟨m / 128, g, pre ++ [UInt8.ofNat (m % 128 + 128)], by go_num, hg1, by omega, ?_, ?_, hb2⟩
          · rw [List.append_assoc, List.singleton_append, ← HG.out]; exact HP.out
          · rw [← List.append_assoc]; simpa [Nat.add_assoc] using hown2
        case measure => simp [intOf]; omega
end Go.Proofs.YtofdbnkeddcdjaaDoor
