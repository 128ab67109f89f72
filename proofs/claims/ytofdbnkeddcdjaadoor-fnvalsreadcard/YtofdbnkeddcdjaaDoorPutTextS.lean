/-
  What the model's writer of texts makes: a row of the call's own that holds the bytes, and behind them the text's length and the text; nothing that was there has turned.
-/
import Derived.Test.YtofdbnkeddcdjaaDoorEncT
import Derived.Test.YtofdbnkeddcdjaaDoorPutNum
namespace Go.Proofs.YtofdbnkeddcdjaaDoor
open Go.RowKit
set_option linter.unusedVariables false

set_option maxHeartbeats 1600000 in
theorem specPutText_some (p : Addr) (cap : Nat) (s : ByteArray) (bs : List UInt8) (w : World) (hr : Rd w (some p) bs) (hn : bs.length ≤ 33554300) (hs : s.size ≤ 1048580) :
    Calls Tryd.prog 52 #[.slice (some p) bs.length cap, .string s] w fun e w' =>
      ∃ v, e = .returned v ∧ w'.ownsRow w.heap.size 5 1 v (bs ++ encT s).length (vals (bs ++ encT s)) ∧ Below w.heap.size w w' := by
  obtain ⟨i0, hi, hz0, hz1, hz2⟩ := info_parts Tryd.info5
  have hl := encN_length s.size
  have HJ := hide (encT_join bs s)
  have HL := hide (encT_len bs s)
  go_enter Tryd.func52, Tryd.ntmps52
  go_wp2_with fail
  refine (specPutNum_some p cap _ bs w hr (by omega)).mono ?_
  rintro e w1 ⟨v1, rfl, hown1, hb1⟩
  go_wp2_with (at_builtin; refine Lib.wpList_append_own_string _ rfl (.tmp 8) (.tmp 9) 22 9 rfl w.heap.size 5 i0 Tryd.underlying22 Tryd.underlying9 hi hz0 hz1 hz2 _ _ _ rfl hown1 s rfl (by unfold maxLen; simp; omega) (by simp; omega) hb1.size ?_)
  intro v2 w2 hown2 hgrow2 _
  rw [HJ.out, HL.out] at hown2
  have hb2 : Below w.heap.size w w2 := hb1.grown hgrow2 hb1.size (fun k hk => (hown1.lt k hk).1)
  clear hgrow2 hown1
  go_wp2
  go_ret
  exact ⟨_, rfl, hown2, hb2⟩

end Go.Proofs.YtofdbnkeddcdjaaDoor
