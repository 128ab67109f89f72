/-
  The contracts of the laws' own helpers on Args: to copies, sz counts off, eq finds one the same as itself; so of rows of them.
-/
import Derived.Test.YtaflokfgbmlmaabArgRow
import Derived.Test.YtaflokfgbmlmaabBoxK
import Derived.Test.YtaflokfgbmlmaabLawFact
import Derived.Handy
namespace Go.Proofs.Ytaflokfgbmlmaab
open Go.RowKit
set_option linter.unusedVariables false

theorem Try.info67 : (Try.prog.info? 67).map (fun i => (i.zero, i.size, i.bytes)) = some (some (.agg #[.int .i64 0, .string ⟨#[]⟩, .int .i64 0, .int .i64 0, .string ⟨#[]⟩]), 5, 56) := by kernel_rfl

set_option maxRecDepth 100000 in
set_option maxHeartbeats 1600000 in
theorem toArg_any (K : Int) (S : ByteArray) (VK : Int) (VN : Int) (VS : ByteArray) (w : World) :
    Calls Try.prog 111 #[.agg #[.int .i64 K, .string S, .int .i64 VK, .int .i64 VN, .string VS]] w fun e w' => e = .returned (.agg #[.int .i64 K, .string S, .int .i64 VK, .int .i64 VN, .string VS]) ∧ Below w.heap.size w w' := by
  go_enter Try.func111, Try.ntmps111
  go_wp2_with fail
  have b0 := below_al w (.cells #[.int .i64 K, .string S, .int .i64 VK, .int .i64 VN, .string VS] 125)
  have b1 := b0.alloc b0.size (.cells #[.int .i64 0, .string ⟨#[]⟩, .int .i64 0, .int .i64 0, .string ⟨#[]⟩] 67)
  have b2 := b1.alloc b1.size (.cells #[.int .i64 K, .string S, .int .i64 0, .int .i64 0, .string ⟨#[]⟩] 67)
  have hR := box_old (boxk_new (w.alloc (.cells #[.int .i64 K, .string S, .int .i64 VK, .int .i64 VN, .string VS] 125)) #[.int .i64 0, .string ⟨#[]⟩, .int .i64 0, .int .i64 0, .string ⟨#[]⟩] 67) (by simp) (.cells #[.int .i64 K, .string S, .int .i64 0, .int .i64 0, .string ⟨#[]⟩] 67)
  have hX := boxk_new ((w.alloc (.cells #[.int .i64 K, .string S, .int .i64 VK, .int .i64 VN, .string VS] 125)).alloc (.cells #[.int .i64 0, .string ⟨#[]⟩, .int .i64 0, .int .i64 0, .string ⟨#[]⟩] 67)) #[.int .i64 K, .string S, .int .i64 0, .int .i64 0, .string ⟨#[]⟩] 67
  simp only [World.size_alloc] at hR hX
  refine (toVal_any VK VN VS _).mono ?_
  rintro e w1 ⟨rfl, hb⟩
  have HR := hide (box_below hR hb (by simp))
  have HX := hide (box_below hX hb (by simp))
  have hB : Below w.heap.size w w1 := b2.trans (hb.mono b2.size)
  clear hb hR hX b0 b1 b2
  have x0 := boxk_cell HX.out 0 _ rfl
  have xf0 := boxk_frozen HX.out 0
  have r0 := boxk_cell HR.out 0 _ rfl
  have rf0 := boxk_frozen HR.out 0
  have x1 := boxk_cell HX.out 1 _ rfl
  have xf1 := boxk_frozen HX.out 1
  have r1 := boxk_cell HR.out 1 _ rfl
  have rf1 := boxk_frozen HR.out 1
  have x2 := boxk_cell HX.out 2 _ rfl
  have xf2 := boxk_frozen HX.out 2
  have r2 := boxk_cell HR.out 2 _ rfl
  have rf2 := boxk_frozen HR.out 2
  have x3 := boxk_cell HX.out 3 _ rfl
  have xf3 := boxk_frozen HX.out 3
  have r3 := boxk_cell HR.out 3 _ rfl
  have rf3 := boxk_frozen HR.out 3
  have x4 := boxk_cell HX.out 4 _ rfl
  have xf4 := boxk_frozen HX.out 4
  have r4 := boxk_cell HR.out 4 _ rfl
  have rf4 := boxk_frozen HR.out 4
  have HX2 := hide (boxk_set HX.out 2 (.int .i64 VK))
  have HX3 := hide (boxk_set HX2.out.1 3 (.int .i64 VN))
  have HX4 := hide (boxk_set HX3.out.1 4 (.string VS))
  have HR2 := hide (box_gr (box_gr (box_gr HR.out HX2.out.2 (by omega)) HX3.out.2 (by omega)) HX4.out.2 (by omega))
  have HB2 := hide (below_set (below_set (below_set hB HX2.out.2 (by omega)) HX3.out.2 (by omega)) HX4.out.2 (by omega))
  go_wp2
  refine box5_post HR2.out (fun w4 h4 gr => ?_)
  clear x0 xf0 r0 rf0 x1 xf1 r1 rf1 x2 xf2 r2 rf2 x3 xf3 r3 rf3 x4 xf4 r4 rf4
  have c0 := boxk_cell h4 0 _ rfl
  have c1 := boxk_cell h4 1 _ rfl
  have c2 := boxk_cell h4 2 _ rfl
  have c3 := boxk_cell h4 3 _ rfl
  have c4 := boxk_cell h4 4 _ rfl
  exact bodyPost_ret (v := .agg #[.int .i64 K, .string S, .int .i64 VK, .int .i64 VN, .string VS]) (by simp [results, Try.results111, go_sem, c0, c1, c2, c3, c4]) rfl ⟨rfl, below_set HB2.out gr (by omega)⟩

set_option maxRecDepth 100000 in
set_option maxHeartbeats 1600000 in
theorem szArg_any (K : Int) (S : ByteArray) (VK : Int) (VN : Int) (VS : ByteArray) (left : Int) (w : World) (hs : S.size ≤ maxLen) (hv : VS.size ≤ maxLen) (h0 : 0 ≤ left) (h1 : left ≤ 1048576) :
    Calls Try.prog 109 #[.agg #[.int .i64 K, .string S, .int .i64 VK, .int .i64 VN, .string VS], .int .i64 left] w fun e w' =>
      (∃ r, e = .returned (.int .i64 r) ∧ (r = -1 ∨ (0 ≤ r ∧ r + (S.size : Int) + (VS.size : Int) ≤ left))) ∧ Below w.heap.size w w' := by
  have hs0 := hs
  unfold maxLen at hs
  by_cases h2 : left - (S.size : Int) < 0
  · go_enter Try.func109, Try.ntmps109
    go_wp2
    go_ret
    exact ⟨⟨-1, rfl, .inl rfl⟩, by go_grown⟩
  · go_enter Try.func109, Try.ntmps109
    go_wp2_with fail
    have b0 := below_al w (.cells #[.int .i64 K, .string S, .int .i64 VK, .int .i64 VN, .string VS] 125)
    refine (szVal_any VK VN VS (left - (S.size : Int)) _ hv (by omega) (by omega)).mono ?_
    rintro e w1 ⟨rfl, hb1⟩
    have hB1 : Below w.heap.size w w1 := b0.trans (hb1.mono b0.size)
    clear hb1 b0
    by_cases h3 : left - (S.size : Int) - (VS.size : Int) < 0
    · rw [if_pos h3]
      go_wp2
      go_ret
      exact ⟨⟨-1, rfl, .inl rfl⟩, hB1⟩
    · rw [if_neg h3]
      go_wp2
      go_ret
      exact ⟨⟨_, rfl, .inr ⟨by omega, by omega⟩⟩, hB1⟩

set_option maxRecDepth 100000 in
set_option maxHeartbeats 1600000 in
theorem eqArg_same (K : Int) (S : ByteArray) (VK : Int) (VN : Int) (VS : ByteArray) (w : World) :
    Calls Try.prog 115 #[.agg #[.int .i64 K, .string S, .int .i64 VK, .int .i64 VN, .string VS], .agg #[.int .i64 K, .string S, .int .i64 VK, .int .i64 VN, .string VS]] w fun e w' => e = .returned (.bool true) ∧ Below w.heap.size w w' := by
  have kK : (K != K) = false := by simp
  have kS : (S.toList == S.toList) = true := by simp
  go_enter Try.func115, Try.ntmps115
  go_wp2_with fail
  have b0 := below_al w (.cells #[.int .i64 K, .string S, .int .i64 VK, .int .i64 VN, .string VS] 67)
  have b1 := b0.alloc b0.size (.cells #[.int .i64 K, .string S, .int .i64 VK, .int .i64 VN, .string VS] 67)
  refine (eqVal_same VK VN VS _).mono ?_
  rintro e w1 ⟨rfl, hb⟩
  have hB : Below w.heap.size w w1 := b1.trans (hb.mono b1.size)
  go_wp2
  go_ret
  exact ⟨rfl, hB⟩

theorem keepArg {w0 W w' : World} {B : Nat} {p0 p1 p2 p3 p4 p5 p6 p7 p8 p9 : Addr} {v0 v1 v2 v3 v4 v5 v6 v7 v8 v9 : Value} (hb : Below W.heap.size W w')
    (h : W.cell? p0 = some v0 ∧ W.cell? p1 = some v1 ∧ W.cell? p2 = some v2 ∧ W.cell? p3 = some v3 ∧ W.cell? p4 = some v4 ∧ W.cell? p5 = some v5 ∧ W.cell? p6 = some v6 ∧ W.cell? p7 = some v7 ∧ W.cell? p8 = some v8 ∧ W.cell? p9 = some v9 ∧ Below B w0 W ∧ B ≤ W.heap.size) :
    w'.cell? p0 = some v0 ∧ w'.cell? p1 = some v1 ∧ w'.cell? p2 = some v2 ∧ w'.cell? p3 = some v3 ∧ w'.cell? p4 = some v4 ∧ w'.cell? p5 = some v5 ∧ w'.cell? p6 = some v6 ∧ w'.cell? p7 = some v7 ∧ w'.cell? p8 = some v8 ∧ w'.cell? p9 = some v9 ∧ Below B w0 w' ∧ B ≤ w'.heap.size := by
  obtain ⟨q0, q1, q2, q3, q4, q5, q6, q7, q8, q9, h6, h7⟩ := h
  have k : ∀ {a : Addr} {v : Value}, W.cell? a = some v → w'.cell? a = some v := fun {a v} h => by rw [hb.cell (World.block_lt_of_cell? W _ h)]; exact h
  exact ⟨k q0, k q1, k q2, k q3, k q4, k q5, k q6, k q7, k q8, k q9, h6.trans (hb.mono h7), Nat.le_trans h7 hb.size⟩
end Go.Proofs.Ytaflokfgbmlmaab
