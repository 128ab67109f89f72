/-
  What the tested sameness answers of facts of one kind whose first five values are unlike.
-/
import Derived.Test.YtbellpalomiokadDoorJSameX
namespace Go.Proofs.YtbellpalomiokadDoor
open Go.RowKit
set_option linter.unusedVariables false

set_option maxRecDepth 100000 in
set_option maxHeartbeats 64000000 in
theorem implSame_five (kd kd' : ByteArray) (a b : Option Addr) (ca cb : Nat) (L M : List V3) (v0 v1 v2 v3 v4 u0 u1 u2 u3 u4 : V3) (w : World) (hr : RdV w a L) (hq : RdV w b M) (hn : L.length ≤ 1048580) (hm : M.length ≤ 1048580) (hla : LiesV a L.length ca) (hlb : LiesV b M.length cb) (HPL : Hid (pad5 L = [v0, v1, v2, v3, v4])) (HPM : Hid (pad5 M = [u0, u1, u2, u3, u4])) (hl2 : ((L.length : Int) == (M.length : Int)) = true) (h1 : (kd.toList == kd'.toList) = true) (hq5 : ∀ w, (Op.equalIn 9999 62 (.agg #[.int .i64 v0.K, .int .i64 v0.N, .string v0.S, .int .i64 v1.K, .int .i64 v1.N, .string v1.S, .int .i64 v2.K, .int .i64 v2.N, .string v2.S, .int .i64 v3.K, .int .i64 v3.N, .string v3.S, .int .i64 v4.K, .int .i64 v4.N, .string v4.S]) (.agg #[.int .i64 u0.K, .int .i64 u0.N, .string u0.S, .int .i64 u1.K, .int .i64 u1.N, .string u1.S, .int .i64 u2.K, .int .i64 u2.N, .string u2.S, .int .i64 u3.K, .int .i64 u3.N, .string u3.S, .int .i64 u4.K, .int .i64 u4.N, .string u4.S])).run Tryd.prog w = .ok false w) :
    Calls Tryd.prog 11 #[.agg #[.string kd, .slice a L.length ca], .agg #[.string kd', .slice b M.length cb]] w fun e w' =>
      e = .returned (.bool false) ∧ Below w.heap.size w w' := by
  have b0 := below_al w (.cells #[.string kd, .slice a L.length ca] 29)
  have b1 := b0.alloc b0.size (.cells #[.string kd', .slice b M.length cb] 29)
  have T1 : Two w w.heap.size a b L M ((w.alloc (.cells #[.string kd, .slice a L.length ca] 29)).alloc (.cells #[.string kd', .slice b M.length cb] 29)) := ⟨hr.below b1, hq.below b1, b1, b1.size⟩
  have hX := box_old (box2_new w (.string kd) (.slice a L.length ca) 29) (by simp) (.cells #[.string kd', .slice b M.length cb] 29)
  have hY := box2_new (w.alloc (.cells #[.string kd, .slice a L.length ca] 29)) (.string kd') (.slice b M.length cb) 29
  simp only [World.size_alloc] at hX hY
  obtain ⟨x0, x1, -, -⟩ := box2_cell hX
  obtain ⟨y0, y1, -, -⟩ := box2_cell hY
  have hr0 := hr
  clear hX hY b0 b1 hr hq
  clear hr0
  go_enter Tryd.func11, Tryd.ntmps11
  go_wp2_with fail
  generalize (w.alloc (.cells #[.string kd, .slice a L.length ca] 29)).alloc (.cells #[.string kd', .slice b M.length cb] 29) = w1 at x0 x1 y0 y1 T1 ⊢
  go_region_with (first | (go_at_call_of 29 kd; refine (fixed_exp kd _ _ L v0 v1 v2 v3 v4 _ T1.drew.1 hn HPL.out).mono ?_; rintro e w4 ⟨rfl, hb4⟩; obtain ⟨p0, p1, p2, p3, T4⟩ := keepF (below_dr hb4) ⟨x0, x1, y0, y1, T1⟩) | (go_at_call_of 29 kd'; refine (fixed_exp kd' _ _ M u0 u1 u2 u3 u4 _ T4.2.1 hm HPM.out).mono ?_; rintro e w5 ⟨rfl, hb5⟩; obtain ⟨q0, q1, q2, q3, T5⟩ := keepF hb5 ⟨p0, p1, p2, p3, T4⟩))
  all_goals
    go_wp2
    go_ret
    exact ⟨rfl, T5.2.2.1⟩
end Go.Proofs.YtbellpalomiokadDoor
