/-
  What the writers of texts make, the tested one and the model alike: a row of the call's own that holds the bytes, and behind them the text's length and the text; nothing that was there has turned.
-/
import Derived.Test.YtmkjjmeingndeaqPutNum
import Derived.Test.YtmkjjmeingndeaqPutNumI
import Derived.Lib.AppendStr
namespace Go.Proofs.Ytmkjjmeingndeaq
open Go.RowKit
set_option linter.unusedVariables false

def encT (s : ByteArray) : List UInt8 := encN s.size ++ s.data.toList
theorem encT_length (s : ByteArray) : (encT s).length ≤ 6 + s.size := by
  have := encN_length s.size
  have e : s.data.toList.length = s.size := by rw [Array.length_toList]; rfl
  simp [encT]; omega
theorem strCells_vals (s : ByteArray) : Lib.strCells s = vals s.data.toList := rfl
theorem encT_join (bs : List UInt8) (s : ByteArray) : vals (bs ++ encN s.size) ++ Lib.strCells s = vals (bs ++ encT s) := by
  rw [strCells_vals, ← vals_append]; simp [encT]
theorem encT_len (bs : List UInt8) (s : ByteArray) : bs.length + (encN s.size).length + s.size = (bs ++ encT s).length := by
  have e : s.data.toList.length = s.size := by rw [Array.length_toList]; rfl
  simp only [encT, List.length_append]; omega

set_option maxHeartbeats 1600000 in
theorem specPutText_some (p : Addr) (cap : Nat) (s : ByteArray) (bs : List UInt8) (w : World) (hr : Rd w (some p) bs) (hn : bs.length ≤ 1048580) (hs : s.size ≤ 1048580) :
    Calls Try.prog 17 #[.slice (some p) bs.length cap, .string s] w fun e w' =>
      ∃ v, e = .returned v ∧ w'.ownsRow w.heap.size 5 1 v (bs ++ encT s).length (vals (bs ++ encT s)) ∧ Below w.heap.size w w' := by
  obtain ⟨i0, hi, hz0, hz1, hz2⟩ := info_parts Try.info5
  have hl := encN_length s.size
  have HJ := hide (encT_join bs s)
  have HL := hide (encT_len bs s)
  go_enter Try.func17, Try.ntmps17
  go_wp2_with fail
  refine (specPutNum_some p cap _ bs w hr hn).mono ?_
  rintro e w1 ⟨v1, rfl, hown1, hb1⟩
  go_wp2_with (at_builtin; refine Lib.wpList_append_own_string _ rfl (.tmp 8) (.tmp 9) 22 9 rfl w.heap.size 5 i0 Try.underlying22 Try.underlying9 hi hz0 hz1 hz2 _ _ _ rfl hown1 s rfl (by unfold maxLen; simp; omega) (by simp; omega) hb1.size ?_)
  intro v2 w2 hown2 hgrow2 _
  rw [HJ.out, HL.out] at hown2
  have hb2 : Below w.heap.size w w2 := hb1.grown hgrow2 hb1.size (fun k hk => (hown1.lt k hk).1)
  clear hgrow2 hown1
  go_wp2
  go_ret
  exact ⟨_, rfl, hown2, hb2⟩

set_option maxHeartbeats 1600000 in
theorem implPutText_any (a : Option Addr) (cap : Nat) (s : ByteArray) (bs : List UInt8) (w : World) (hr : Rd w a bs) (hn : bs.length ≤ 1048580) (hs : s.size ≤ 1048580) :
    Calls Try.prog 18 #[.slice a bs.length cap, .string s] w fun e w' =>
      ∃ v, e = .returned v ∧ w'.ownsRow w.heap.size 5 1 v (bs ++ encT s).length (vals (bs ++ encT s)) ∧ Below w.heap.size w w' := by
  obtain ⟨i0, hi, hz0, hz1, hz2⟩ := info_parts Try.info5
  have hl := encN_length s.size
  have HJ := hide (encT_join bs s)
  have HL := hide (encT_len bs s)
  go_enter Try.func18, Try.ntmps18
  go_wp2_with fail
  rw [show (5 : Int) + (s.size : Int) = ((5 + s.size : Nat) : Int) by omega]
  refine (copyWithRoom_any a cap (5 + s.size) bs w hr (by omega) (by omega)).mono ?_
  rintro e w1 ⟨rfl, hown1, hb1⟩
  go_wp2_with fail
  refine (putNums_one _ bs.length w.heap.size w1.heap.size s.size bs _ (hown1.alloc _) (by have := hb1.size; simp; omega) (by omega) (by simp)).mono ?_
  rintro e w2 ⟨v2, rfl, hown2, hb2⟩
  have hb : Below w.heap.size w w2 := (hb1.alloc hb1.size _).trans hb2
  clear hown1 hb1 hb2
  go_wp2_with (at_builtin; refine Lib.wpList_append_own_string _ rfl (.tmp 15) (.tmp 16) 22 9 rfl w.heap.size 5 i0 Try.underlying22 Try.underlying9 hi hz0 hz1 hz2 _ _ _ rfl hown2 s rfl (by unfold maxLen; simp; omega) (by simp; omega) hb.size ?_)
  intro v3 w3 hown3 hgrow3 _
  rw [HJ.out, HL.out] at hown3
  have hb3 : Below w.heap.size w w3 := hb.grown hgrow3 hb.size (fun k hk => (hown2.lt k hk).1)
  clear hgrow3 hown2
  go_wp2
  go_ret
  exact ⟨_, rfl, hown3, hb3⟩
end Go.Proofs.Ytmkjjmeingndeaq
