/-
  The tested program's copy of a store: its items in a block of the call's own, their lists each in its own.
-/
import Derived.Test.YtaflokfgbmlmaadDoorJoined1
namespace Go.Proofs.YtaflokfgbmlmaadDoor
open Go.RowKit
set_option linter.unusedVariables false

set_option maxRecDepth 100000 in
set_option maxHeartbeats 3200000 in
theorem copyStore_any (a : Option Addr) (n cap : Nat) (nx : Int) (J : List It) (w : World) (hr : RdI w a J) (hJ : J.length = n) (hn : n ≤ 1048576) (hl : ∀ i, i < J.length → (iAt J i).L.length ≤ 1048580) (hli : ∀ i, i < J.length → LieV (iAt J i).a (iAt J i).L.length (iAt J i).cap) :
    Calls Tryd.prog 40 #[.agg #[.slice a n cap, .int .i64 nx]] w fun e w' =>
      ∃ K g cp, e = .returned (.agg #[.slice (some ⟨g, 0, none⟩) n cp, .int .i64 nx]) ∧ HoldsI w' w.heap.size g cp K ∧ K.map It.pl = J.map It.pl ∧ Below w.heap.size w w' := by
  have b0 := below_al w (.cells #[.slice a n cap, .int .i64 nx] 29)
  have b1 := b0.alloc b0.size (.cells #[.slice none 0 0, .int .i64 0] 29)
  have hX := box_old (box2_new w (.slice a n cap) (.int .i64 nx) 29) (by simp) (.cells #[.slice none 0 0, .int .i64 0] 29)
  have hR := box2_new (w.alloc (.cells #[.slice a n cap, .int .i64 nx] 29)) (.slice none 0 0) (.int .i64 0) 29
  have hz : w.heap.size + 1 + 1 ≤ ((w.alloc (.cells #[.slice a n cap, .int .i64 nx] 29)).alloc (.cells #[.slice none 0 0, .int .i64 0] 29)).heap.size := by simp
  simp only [World.size_alloc] at hX hR
  have HL := hide hl
  have HLi := hide hli
  clear hl hli
  go_enter Tryd.func40, Tryd.ntmps40
  go_wp2_with fail
  generalize (w.alloc (.cells #[.slice a n cap, .int .i64 nx] 29)).alloc (.cells #[.slice none 0 0, .int .i64 0] 29) = w1 at b1 hX hR hz ⊢
  have HX := hide hX
  have HR := hide hR
  obtain ⟨x0, x1, -, -⟩ := box2_cell hX
  have r1d : RdI w1.drew a J := hr.below b1.drew
  clear b0 hX hR hr
  go_region_with (first | (go_at_call 65; refine (copyItems_any a n cap J _ r1d hJ hn HL.out HLi.out).mono ?_; rintro e w2 ⟨K, g, cp, rfl, hv, hpl, hb⟩; obtain ⟨y0, y1, -, -⟩ := box2_cell (box_drew HX.out hb); obtain ⟨z0, z1, zf0, zf1⟩ := box2_cell (box_drew HR.out hb)))
  all_goals
    have hB : Below w.heap.size w w2 := b1.trans ((below_dr hb).mono b1.size)
    have hR2 := box_drew HR.out hb
    go_wp2
    refine box2_post hR2 (fun w4 h4 gr => ?_)
    clear x0 x1 y0 y1 z0 z1 zf0 zf1
    obtain ⟨c0, c1, -, -⟩ := box2_cell h4
    exact bodyPost_ret (v := .agg #[.slice (some ⟨g, 0, none⟩) n cp, .int .i64 nx]) (by simp [results, Tryd.results40, go_sem, c0, c1]) rfl
      ⟨K, g, cp, rfl, (hv.grown gr (by simp; omega)).weaken (by simp; omega), hpl, below_set hB gr (by omega)⟩
end Go.Proofs.YtaflokfgbmlmaadDoor
