/-
  What the tested sameness answers of facts of one kind whose first five values are the same.
-/
import Derived.Test.YtaflokfgbmlmaadDoorJoined4
import Derived.Deep.RegionHeld3
namespace Go.Proofs.YtaflokfgbmlmaadDoor
open Go.RowKit
set_option linter.unusedVariables false

theorem equalVals_n (a b : Option Addr) (ca cb : Nat) (L M : List V3) (n m : Nat) (w : World) (h1 : L.length = n) (h2 : M.length = m) (hr : RdV w a L) (hq : RdV w b M) (hn : n ≤ 1048580) (hm : m ≤ 1048580) :
    Calls Tryd.prog 53 #[.slice a n ca, .slice b m cb] w fun e w' =>
      e = .returned (.bool (decide (L = M))) ∧ Below w.heap.size w w' := by
  subst h1 h2
  exact equalVals_any a b ca cb L M w hr hq hn hm
theorem k4 {W w' : World} {p0 p1 p2 p3 : Addr} {v0 v1 v2 v3 : Value} (hb : Below W.heap.size W w')
    (h : W.cell? p0 = some v0 ∧ W.cell? p1 = some v1 ∧ W.cell? p2 = some v2 ∧ W.cell? p3 = some v3) :
    w'.cell? p0 = some v0 ∧ w'.cell? p1 = some v1 ∧ w'.cell? p2 = some v2 ∧ w'.cell? p3 = some v3 := by
  obtain ⟨h0, h1, h2, h3⟩ := h
  have k : ∀ {a : Addr} {v : Value}, W.cell? a = some v → w'.cell? a = some v := fun {a v} h => by rw [hb.cell (World.block_lt_of_cell? W _ h)]; exact h
  exact ⟨k h0, k h1, k h2, k h3⟩

set_option maxRecDepth 100000 in
set_option maxHeartbeats 64000000 in
theorem implSame_all (kd kd' : ByteArray) (a b : Option Addr) (ca cb : Nat) (L M : List V3) (v0 v1 v2 v3 v4 u0 u1 u2 u3 u4 : V3) (w : World) (hr : RdV w a L) (hq : RdV w b M) (hn : L.length ≤ 1048580) (hm : M.length ≤ 1048580) (hla : LiesV a L.length ca) (hlb : LiesV b M.length cb) (HPL : Hid (pad5 L = [v0, v1, v2, v3, v4])) (HPM : Hid (pad5 M = [u0, u1, u2, u3, u4])) (hl2 : ((L.length : Int) == (M.length : Int)) = true) (h1 : (kd.toList == kd'.toList) = true) (hq5 : ∀ w, (Op.equalIn 9999 86 (.agg #[.int .i64 v0.K, .int .i64 v0.N, .string v0.S, .int .i64 v1.K, .int .i64 v1.N, .string v1.S, .int .i64 v2.K, .int .i64 v2.N, .string v2.S, .int .i64 v3.K, .int .i64 v3.N, .string v3.S, .int .i64 v4.K, .int .i64 v4.N, .string v4.S]) (.agg #[.int .i64 u0.K, .int .i64 u0.N, .string u0.S, .int .i64 u1.K, .int .i64 u1.N, .string u1.S, .int .i64 u2.K, .int .i64 u2.N, .string u2.S, .int .i64 u3.K, .int .i64 u3.N, .string u3.S, .int .i64 u4.K, .int .i64 u4.N, .string u4.S])).run Tryd.prog w = .ok true w) :
    Calls Tryd.prog 24 #[.agg #[.string kd, .slice a L.length ca], .agg #[.string kd', .slice b M.length cb]] w fun e w' =>
      e = .returned (.bool (decide (L.drop 5 = M.drop 5))) ∧ Below w.heap.size w w' := by
  have b0 := below_al w (.cells #[.string kd, .slice a L.length ca] 41)
  have b1 := b0.alloc b0.size (.cells #[.string kd', .slice b M.length cb] 41)
  have T1 : Two w w.heap.size a b L M ((w.alloc (.cells #[.string kd, .slice a L.length ca] 41)).alloc (.cells #[.string kd', .slice b M.length cb] 41)) := ⟨hr.below b1, hq.below b1, b1, b1.size⟩
  have hX := box_old (box2_new w (.string kd) (.slice a L.length ca) 41) (by simp) (.cells #[.string kd', .slice b M.length cb] 41)
  have hY := box2_new (w.alloc (.cells #[.string kd, .slice a L.length ca] 41)) (.string kd') (.slice b M.length cb) 41
  simp only [World.size_alloc] at hX hY
  obtain ⟨x0, x1, -, -⟩ := box2_cell hX
  obtain ⟨y0, y1, -, -⟩ := box2_cell hY
  have hr0 := hr
  clear hX hY b0 b1 hr hq
  clear hr0
  go_enter Tryd.func24, Tryd.ntmps24
  go_wp2_with fail
  generalize (w.alloc (.cells #[.string kd, .slice a L.length ca] 41)).alloc (.cells #[.string kd', .slice b M.length cb] 41) = w1 at x0 x1 y0 y1 T1 ⊢
  have S1 : w1.cell? ⟨w.heap.size, 0, none⟩ = some (.string kd) ∧ w1.cell? ⟨w.heap.size, 1, none⟩ = some (.slice a L.length ca) ∧ w1.cell? ⟨w.heap.size + 1, 0, none⟩ = some (.string kd') ∧ w1.cell? ⟨w.heap.size + 1, 1, none⟩ = some (.slice b M.length cb) := ⟨x0, x1, y0, y1⟩
  have HS1 := hide S1
  clear S1
  go_region_held3 (fun W => W.cell? ⟨w.heap.size, 0, none⟩ = some (.string kd) ∧ W.cell? ⟨w.heap.size, 1, none⟩ = some (.slice a L.length ca) ∧ W.cell? ⟨w.heap.size + 1, 0, none⟩ = some (.string kd') ∧ W.cell? ⟨w.heap.size + 1, 1, none⟩ = some (.slice b M.length cb)) (first | exact ⟨x0, x1, y0, y1⟩ | exact k4 (below_dr hb4) HS1.out | exact k4 (below_step (below_dr hb4) hb5) HS1.out | exact k4 (below_step (below_step (below_dr hb4) hb5) hb6) HS1.out | exact k4 (below_step (below_step (below_step (below_dr hb4) hb5) hb6) hb7) HS1.out | exact k4 (below_step (below_step (below_step (below_step (below_dr hb4) hb5) hb6) hb7) hb8) HS1.out)
    (first | (go_at_call_of 52 kd; refine (fixed_exp kd _ _ L v0 v1 v2 v3 v4 _ T1.drew.1 hn HPL.out).mono ?_; rintro e w4 ⟨rfl, hb4⟩) | (go_at_call_of 52 kd'; refine (fixed_exp kd' _ _ M u0 u1 u2 u3 u4 _ (T1.drew.keep hb4).2.1 hm HPM.out).mono ?_; rintro e w5 ⟨rfl, hb5⟩) | (go_at_call_of 54 kd; refine (fieldsBeyond_any kd _ _ L _ ((T1.drew.keep hb4).keep hb5).1 hla).mono ?_; rintro e w6 ⟨⟨a6, c6, rfl, r6⟩, hb6⟩) | (go_at_call_of 54 kd'; refine (fieldsBeyond_any kd' _ _ M _ (((T1.drew.keep hb4).keep hb5).keep hb6).2.1 hlb).mono ?_; rintro e w7 ⟨⟨a7, c7, rfl, r7⟩, hb7⟩) | (go_at_call 53; refine (equalVals_n _ _ _ _ (L.drop 5) (M.drop 5) _ _ _ (by simp) (by simp) (r6.below hb7) r7 (by omega) (by omega)).mono ?_; rintro e w8 ⟨rfl, hb8⟩))
  all_goals
    go_wp2
    go_ret
    exact ⟨rfl, (((((T1.drew.keep hb4).keep hb5).keep hb6).keep hb7).keep hb8).2.2.1⟩
end Go.Proofs.YtaflokfgbmlmaadDoor
