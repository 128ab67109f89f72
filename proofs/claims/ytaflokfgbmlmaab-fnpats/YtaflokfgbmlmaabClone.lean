/-
  A text copied, a value copied: the same.
-/
import Derived.Test.YtaflokfgbmlmaabShelf
import Derived.Test.YtaflokfgbmlmaabBoxK
import Derived.Test.YtaflokfgbmlmaabKeep6
import Derived.Handy
import Derived.Test.YtaflokfgbmlmaabValE
namespace Go.Proofs.Ytaflokfgbmlmaab
open Go.RowKit
set_option linter.unusedVariables false

set_option maxRecDepth 100000 in
theorem cloneS_any (s : ByteArray) (w : World) (hs : s.size ≤ 1048580) :
    Calls Try.prog 103 #[.string s] w fun e w' => e = .returned (.string s) ∧ Below w.heap.size w w' := by
  go_enter Try.func103, Try.ntmps103
  go_wp2_with fail
  refine (Try.stringslite_Clone s _ (by omega)).mono ?_
  rintro e w1 ⟨rfl, hb⟩
  go_wp2
  go_ret
  exact ⟨rfl, hb⟩
theorem two_boxes {w w' : World} {o : Obj} {cs : Array Value} {T : TypeId} (hb : Below ((w.alloc o).alloc (.cells cs T)).drew.heap.size ((w.alloc o).alloc (.cells cs T)).drew w') :
    w'.heap[w.heap.size + 1]? = some (.cells cs T (0, 0)) ∧ Below w.heap.size w w' := by
  have h0 := boxk_new (w.alloc o) cs T
  have b0 := below_al w o
  have b1 := b0.alloc b0.size (.cells cs T)
  rw [World.size_alloc] at h0
  refine ⟨box_below (w := ((w.alloc o).alloc (.cells cs T)).drew) h0 hb (by show _ < ((w.alloc o).alloc (.cells cs T)).heap.size; simp), b1.drew.trans (hb.mono ?_)⟩
  show _ ≤ ((w.alloc o).alloc (.cells cs T)).heap.size
  simp; omega
set_option maxRecDepth 100000 in
set_option maxHeartbeats 1600000 in
theorem copyVal_any (K N : Int) (S : ByteArray) (w : World) (hs : S.size ≤ 1048580) :
    Calls Try.prog 68 #[.agg #[.int .i64 K, .int .i64 N, .string S]] w fun e w' => e = .returned (.agg #[.int .i64 K, .int .i64 N, .string S]) ∧ Below w.heap.size w w' := by
  go_enter Try.func68, Try.ntmps68
  go_wp2
  go_region_with (go_at_call 103; refine (cloneS_any _ _ hs).mono ?_; rintro e w' ⟨rfl, hb⟩; obtain ⟨hc, hf⟩ := bcell hb)
  all_goals go_wp2
  all_goals
    obtain ⟨hR, hB⟩ := two_boxes hb
    clear hc hf hb
    refine box_post hR (fun w4 h4 gr => ?_)
    obtain ⟨c0, c1, c2, -, -, -⟩ := box_cell h4
    exact bodyPost_ret (v := .agg #[.int .i64 K, .int .i64 N, .string S]) (by simp [results, Try.results68, go_sem, c0, c1, c2]) rfl ⟨rfl, below_set hB gr (by omega)⟩
end Go.Proofs.Ytaflokfgbmlmaab
