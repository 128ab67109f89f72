/-
  What the tested writer of texts makes: a row of the call's own that holds the bytes, and behind them the text's length and the text; nothing that was there has turned.
-/
import Derived.Test.YtofdbnkeddcdjaaDoorEncT
import Derived.Test.YtofdbnkeddcdjaaDoorPutNumI
namespace Go.Proofs.YtofdbnkeddcdjaaDoor
open Go.RowKit
set_option linter.unusedVariables false

set_option maxHeartbeats 1600000 in
theorem addText_any (v : Value) (len base : Nat) (s : ByteArray) (bs : List UInt8) (w : World) (hown : w.ownsRow base 5 1 v len (vals bs)) (hbase : base ≤ w.heap.size) (hn : bs.length ≤ 33554300) (hs : s.size ≤ 1048580) :
    Calls Tryd.prog 48 #[v, .string s] w fun e w' =>
      ∃ v', e = .returned v' ∧ w'.ownsRow base 5 1 v' (bs ++ encT s).length (vals (bs ++ encT s)) ∧ Below base w w' ∧ TagKept w w' := by
  obtain ⟨i0, hi, hz0, hz1, hz2⟩ := info_parts Tryd.info5
  have hl := encN_length s.size
  have HJ := hide (encT_join bs s)
  have HL := hide (encT_len bs s)
  go_enter Tryd.func48, Tryd.ntmps48
  go_wp2_with fail
  refine (putNums_one _ len base w.heap.size s.size bs _ (hown.alloc _) (by simp; omega) (by omega) (by simp)).mono ?_
  rintro e w2 ⟨v2, rfl, hown2, hb2, ht2⟩
  have HT2 := hide ((TagKept.alloc w _).trans ht2)
  clear ht2
  have hb : Below base w w2 := ((Below.refl _ _).alloc hbase _).trans hb2
  clear hown hb2
  go_wp2_with (at_builtin; refine Lib.wpList_append_own_string _ rfl (.tmp 9) (.tmp 10) 22 9 rfl base 5 i0 Tryd.underlying22 Tryd.underlying9 hi hz0 hz1 hz2 _ _ _ rfl hown2 s rfl (by unfold maxLen; simp; omega) (by simp; omega) (Nat.le_trans hbase hb.size) ?_)
  intro v3 w3 hown3 hgrow3 _
  rw [HJ.out, HL.out] at hown3
  have hb3 : Below base w w3 := hb.grown hgrow3 (Nat.le_trans hbase hb.size) (fun k hk => (hown2.lt k hk).1)
  have HT3 := hide (HT2.out.trans (TagKept.grown hown2 hgrow3))
  clear hgrow3 hown2
  go_wp2
  go_ret
  exact ⟨_, rfl, hown3, hb3, HT3.out⟩
end Go.Proofs.YtofdbnkeddcdjaaDoor
