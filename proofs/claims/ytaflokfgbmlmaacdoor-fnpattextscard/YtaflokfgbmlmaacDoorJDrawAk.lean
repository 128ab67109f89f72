/-
  The contract of the draw of any argument, and of the laws' own look for a text in a row.
-/
import Derived.Test.YtaflokfgbmlmaacDoorJDrawPt
import Derived.Test.YtaflokfgbmlmaacDoorJDrawA
import Derived.Test.YtaflokfgbmlmaacDoorJoined2
namespace Go.Proofs.YtaflokfgbmlmaacDoor
open Go.RowKit
set_option linter.unusedVariables false

theorem below_set' {w0 w w2 : World} {q : Nat} (hb : Below w0.heap.size w0 w) (gr : w.grownBy w2 (some q)) (hq : w0.heap.size ≤ q) : Below w0.heap.size w0 w2 :=
  hb.grown gr hb.size (fun k hk => by cases hk; exact hq)
/-- some argument was drawn -/
def DrawnAk (w : World) (e : Ending) (w' : World) : Prop := ∃ x : A5, e = .returned (.agg #[.int .i64 x.K, .string x.S, .int .i64 x.V.K, .int .i64 x.V.N, .string x.V.S]) ∧ x.small ∧ Below w.heap.size w w'

set_option maxRecDepth 100000 in
set_option maxHeartbeats 6400000 in
theorem drawArgOk_any (a : Option Addr) (cap : Nat) (code : List UInt8) (w : World) (hr : Rd w a code) (hn : code.length ≤ 1048576) :
    Calls Tryd.prog 28 #[.slice a code.length cap] w (DrawnAk w) := by
  go_enter Tryd.func28, Tryd.ntmps28
  go_wp2_with fail
  have b1 := below_al w (.cells #[.int .i64 0, .string ⟨#[]⟩, .int .i64 0, .int .i64 0, .string ⟨#[]⟩] 39)
  have r1 := boxk_new w #[.int .i64 0, .string ⟨#[]⟩, .int .i64 0, .int .i64 0, .string ⟨#[]⟩] 39
  have z1 : (w.alloc (.cells #[.int .i64 0, .string ⟨#[]⟩, .int .i64 0, .int .i64 0, .string ⟨#[]⟩] 39)).heap.size = w.heap.size + 1 := by simp
  generalize w.alloc (.cells #[.int .i64 0, .string ⟨#[]⟩, .int .i64 0, .int .i64 0, .string ⟨#[]⟩] 39) = w0 at b1 r1 z1 ⊢
  refine (l1New_any w.heap.size a cap code w0 (hr.toB.below b1) hn b1.size).mono ?_
  rintro e w1 ⟨rfl, c1, g1⟩
  rw [z1] at c1 ⊢
  have q1 := c1.lt
  have R1 := hide (show w1.heap[w.heap.size]? = _ from (g1.block _ (by omega) (by simp)).trans r1)
  have B1 : Below w.heap.size w w1 := b1.trans ((((Below.refl _ _).grown g1 (Nat.le_refl _) (fun k hk => by cases hk))).mono b1.size)
  clear r1 b1 g1
  go_wp2_with fail
  refine (l6Arg_any w.heap.size (w.heap.size + 1) w1 c1).mono ?_
  rintro e w2 ⟨x, rfl, hx, c2, g2⟩
  have R2 := hide (box_grown R1.out g2 (by omega))
  have B2 : Below w.heap.size w w2 := B1.grown g2 B1.size (fun k hk => by cases hk; omega)
  have s2 := g2.size
  clear R1 g2 B1 c1
  obtain ⟨hx0, hx1⟩ := hx
  have c3 : Cur w.heap.size (w2.alloc (.cells #[.int .i64 x.K, .string x.S, .int .i64 x.V.K, .int .i64 x.V.N, .string x.V.S] 39)) (w.heap.size + 1) := c2.keep (World.grownBy_alloc w2 _ none) (by simp) (by simp)
  have A3 := hide (boxk_new w2 #[.int .i64 x.K, .string x.S, .int .i64 x.V.K, .int .i64 x.V.N, .string x.V.S] 39)
  have R3 := hide (box_alloc R2.out (.cells #[.int .i64 x.K, .string x.S, .int .i64 x.V.K, .int .i64 x.V.N, .string x.V.S] 39))
  have B3 := B2.alloc B2.size (.cells #[.int .i64 x.K, .string x.S, .int .i64 x.V.K, .int .i64 x.V.N, .string x.V.S] 39)
  clear R2 B2 c2
  go_wp2_with fail
  refine (l1Below_any w.heap.size (w.heap.size + 1) 6 _ c3 (by omega) (by omega)).mono ?_
  generalize w2.alloc (.cells #[.int .i64 x.K, .string x.S, .int .i64 x.V.K, .int .i64 x.V.N, .string x.V.S] 39) = w3 at A3 R3 B3
  obtain ⟨A, HA⟩ : ∃ A, Hid (w2.heap.size = A) := ⟨_, rfl⟩
  rw [HA.out] at A3 s2 ⊢
  clear HA c3
  rintro e w4 ⟨y, rfl, y0, y1, c4, g4⟩
  have A4 := hide (box_grown A3.out g4 (by omega))
  have R4 := hide (box_grown R3.out g4 (by omega))
  have B4' : Below w.heap.size w w4 := below_set' B3 g4 (by omega)
  clear g4 A3 R3 B3
  by_cases h0 : y = 0
  · subst h0
    go_wp2_with fail
    refine (l1Below_any w.heap.size (w.heap.size + 1) 5 _ c4 (by omega) (by omega)).mono ?_
    rintro e w5 ⟨k5, rfl, -, -, c5, g5⟩
    have A5' := hide (box_grown A4.out g5 (by omega))
    have R5 := hide (box_grown R4.out g5 (by omega))
    have B5 : Below w.heap.size w w5 := below_set' B4' g5 (by omega)
    clear g5 A4 R4 B4' c4 c5
    have b0 := boxk_cell A5'.out 0 _ rfl
    have bf0 := boxk_frozen A5'.out 0
    have r0 := boxk_cell R5.out 0 _ rfl
    have rf0 := boxk_frozen R5.out 0
    have b1 := boxk_cell A5'.out 1 _ rfl
    have bf1 := boxk_frozen A5'.out 1
    have r1 := boxk_cell R5.out 1 _ rfl
    have rf1 := boxk_frozen R5.out 1
    have b2 := boxk_cell A5'.out 2 _ rfl
    have bf2 := boxk_frozen A5'.out 2
    have r2 := boxk_cell R5.out 2 _ rfl
    have rf2 := boxk_frozen R5.out 2
    have b3 := boxk_cell A5'.out 3 _ rfl
    have bf3 := boxk_frozen A5'.out 3
    have r3 := boxk_cell R5.out 3 _ rfl
    have rf3 := boxk_frozen R5.out 3
    have b4 := boxk_cell A5'.out 4 _ rfl
    have bf4 := boxk_frozen A5'.out 4
    have r4 := boxk_cell R5.out 4 _ rfl
    have rf4 := boxk_frozen R5.out 4
    have S0 := hide (boxk_set A5'.out 0 (.int .i64 k5))
    have HR9 := hide (box_grown R5.out S0.out.2 (by omega))
    have HB9 := hide (below_set' B5 S0.out.2 (by omega))
    go_wp2
    refine box5_post HR9.out (fun w9 h9 gr => ?_)
    clear b0 bf0 r0 rf0 b1 bf1 r1 rf1 b2 bf2 r2 rf2 b3 bf3 r3 rf3 b4 bf4 r4 rf4
    have d0 := boxk_cell h9 0 _ rfl
    have d1 := boxk_cell h9 1 _ rfl
    have d2 := boxk_cell h9 2 _ rfl
    have d3 := boxk_cell h9 3 _ rfl
    have d4 := boxk_cell h9 4 _ rfl
    exact bodyPost_ret (v := .agg #[.int .i64 k5, .string x.S, .int .i64 x.V.K, .int .i64 x.V.N, .string x.V.S]) (by simp [results, Tryd.results28, go_sem, d0, d1, d2, d3, d4]) rfl ⟨⟨k5, x.S, x.V⟩, rfl, ⟨hx0, hx1⟩, below_set' HB9.out gr (Nat.le_refl _)⟩
  · have k0 : (y == 0) = false := by simpa using h0
    by_cases h1 : y = 1
    · subst h1
      clear h0 k0
      have hq4 := c4.lt
      go_wp2_with fail
      refine (l1Str_any w.heap.size (w.heap.size + 1) w4.heap.size [⟨#[]⟩, ⟨#[120]⟩, ⟨#[88]⟩, ⟨#[84, 104, 105, 114, 116, 101, 101, 110, 98, 121, 116, 101, 115]⟩] 4 _ (c4.keep (World.grownBy_alloc w4 _ none) (by simp) (by simp)) (by decide) (by decide) (by omega) (cells_strs w4 9 _)).mono ?_
      rintro e w5 ⟨s5, rfl, hx5, c5, g5⟩
      have HS : Hid (s5.size ≤ 1048576) := by
        unfold Hid
        simp only [List.mem_cons, List.not_mem_nil, or_false] at hx5
        rcases hx5 with rfl | rfl | rfl | rfl <;> decide
      have A5' := hide (box_grown (box_alloc A4.out _) g5 (by omega))
      have R5 := hide (box_grown (box_alloc R4.out _) g5 (by omega))
      have B5 : Below w.heap.size w w5 := below_set' (B4'.alloc B4'.size _) g5 (by omega)
      clear g5 A4 R4 B4' c4 c5 hx5
      have b0 := boxk_cell A5'.out 0 _ rfl
      have bf0 := boxk_frozen A5'.out 0
      have r0 := boxk_cell R5.out 0 _ rfl
      have rf0 := boxk_frozen R5.out 0
      have b1 := boxk_cell A5'.out 1 _ rfl
      have bf1 := boxk_frozen A5'.out 1
      have r1 := boxk_cell R5.out 1 _ rfl
      have rf1 := boxk_frozen R5.out 1
      have b2 := boxk_cell A5'.out 2 _ rfl
      have bf2 := boxk_frozen A5'.out 2
      have r2 := boxk_cell R5.out 2 _ rfl
      have rf2 := boxk_frozen R5.out 2
      have b3 := boxk_cell A5'.out 3 _ rfl
      have bf3 := boxk_frozen A5'.out 3
      have r3 := boxk_cell R5.out 3 _ rfl
      have rf3 := boxk_frozen R5.out 3
      have b4 := boxk_cell A5'.out 4 _ rfl
      have bf4 := boxk_frozen A5'.out 4
      have r4 := boxk_cell R5.out 4 _ rfl
      have rf4 := boxk_frozen R5.out 4
      have S0 := hide (boxk_set A5'.out 1 (.string s5))
      have HR9 := hide (box_grown R5.out S0.out.2 (by omega))
      have HB9 := hide (below_set' B5 S0.out.2 (by omega))
      go_wp2
      refine box5_post HR9.out (fun w9 h9 gr => ?_)
      clear b0 bf0 r0 rf0 b1 bf1 r1 rf1 b2 bf2 r2 rf2 b3 bf3 r3 rf3 b4 bf4 r4 rf4
      have d0 := boxk_cell h9 0 _ rfl
      have d1 := boxk_cell h9 1 _ rfl
      have d2 := boxk_cell h9 2 _ rfl
      have d3 := boxk_cell h9 3 _ rfl
      have d4 := boxk_cell h9 4 _ rfl
      exact bodyPost_ret (v := .agg #[.int .i64 x.K, .string s5, .int .i64 x.V.K, .int .i64 x.V.N, .string x.V.S]) (by simp [results, Tryd.results28, go_sem, d0, d1, d2, d3, d4]) rfl ⟨⟨x.K, s5, x.V⟩, rfl, ⟨HS.out, hx1⟩, below_set' HB9.out gr (Nat.le_refl _)⟩
    · have k1 : (y == 1) = false := by simpa using h1
      by_cases h2 : y = 2
      · subst h2
        clear h0 h1 k0 k1
        go_wp2_with fail
        refine (l2Any_any w.heap.size (w.heap.size + 1) _ c4).mono ?_
        rintro e w5 ⟨K5, N5, S5, rfl, hS5, c5, g5⟩
        have A5' := hide (box_grown A4.out g5 (by omega))
        have R5 := hide (box_grown R4.out g5 (by omega))
        have B5 : Below w.heap.size w w5 := below_set' B4' g5 (by omega)
        clear g5 A4 R4 B4' c4 c5
        have b0 := boxk_cell A5'.out 0 _ rfl
        have bf0 := boxk_frozen A5'.out 0
        have r0 := boxk_cell R5.out 0 _ rfl
        have rf0 := boxk_frozen R5.out 0
        have b1 := boxk_cell A5'.out 1 _ rfl
        have bf1 := boxk_frozen A5'.out 1
        have r1 := boxk_cell R5.out 1 _ rfl
        have rf1 := boxk_frozen R5.out 1
        have b2 := boxk_cell A5'.out 2 _ rfl
        have bf2 := boxk_frozen A5'.out 2
        have r2 := boxk_cell R5.out 2 _ rfl
        have rf2 := boxk_frozen R5.out 2
        have b3 := boxk_cell A5'.out 3 _ rfl
        have bf3 := boxk_frozen A5'.out 3
        have r3 := boxk_cell R5.out 3 _ rfl
        have rf3 := boxk_frozen R5.out 3
        have b4 := boxk_cell A5'.out 4 _ rfl
        have bf4 := boxk_frozen A5'.out 4
        have r4 := boxk_cell R5.out 4 _ rfl
        have rf4 := boxk_frozen R5.out 4
        have S0 := hide (boxk_set A5'.out 2 (.int .i64 K5))
        have S1 := hide (boxk_set S0.out.1 3 (.int .i64 N5))
        have S2 := hide (boxk_set S1.out.1 4 (.string S5))
        have HR9 := hide (box_grown (box_grown (box_grown R5.out S0.out.2 (by omega)) S1.out.2 (by omega)) S2.out.2 (by omega))
        have HB9 := hide (below_set' (below_set' (below_set' B5 S0.out.2 (by omega)) S1.out.2 (by omega)) S2.out.2 (by omega))
        go_wp2
        refine box5_post HR9.out (fun w9 h9 gr => ?_)
        clear b0 bf0 r0 rf0 b1 bf1 r1 rf1 b2 bf2 r2 rf2 b3 bf3 r3 rf3 b4 bf4 r4 rf4
        have d0 := boxk_cell h9 0 _ rfl
        have d1 := boxk_cell h9 1 _ rfl
        have d2 := boxk_cell h9 2 _ rfl
        have d3 := boxk_cell h9 3 _ rfl
        have d4 := boxk_cell h9 4 _ rfl
        exact bodyPost_ret (v := .agg #[.int .i64 x.K, .string x.S, .int .i64 K5, .int .i64 N5, .string S5]) (by simp [results, Tryd.results28, go_sem, d0, d1, d2, d3, d4]) rfl ⟨⟨x.K, x.S, ⟨K5, N5, S5⟩⟩, rfl, ⟨hx0, by show S5.size ≤ 1048576; omega⟩, below_set' HB9.out gr (Nat.le_refl _)⟩
      · have k2 : (y == 2) = false := by simpa using h2
        clear h0 h1 h2 c4
        have b0 := boxk_cell A4.out 0 _ rfl
        have bf0 := boxk_frozen A4.out 0
        have r0 := boxk_cell R4.out 0 _ rfl
        have rf0 := boxk_frozen R4.out 0
        have b1 := boxk_cell A4.out 1 _ rfl
        have bf1 := boxk_frozen A4.out 1
        have r1 := boxk_cell R4.out 1 _ rfl
        have rf1 := boxk_frozen R4.out 1
        have b2 := boxk_cell A4.out 2 _ rfl
        have bf2 := boxk_frozen A4.out 2
        have r2 := boxk_cell R4.out 2 _ rfl
        have rf2 := boxk_frozen R4.out 2
        have b3 := boxk_cell A4.out 3 _ rfl
        have bf3 := boxk_frozen A4.out 3
        have r3 := boxk_cell R4.out 3 _ rfl
        have rf3 := boxk_frozen R4.out 3
        have b4 := boxk_cell A4.out 4 _ rfl
        have bf4 := boxk_frozen A4.out 4
        have r4 := boxk_cell R4.out 4 _ rfl
        have rf4 := boxk_frozen R4.out 4
        have HR9 := hide R4.out
        have HB9 := hide B4'
        go_wp2
        refine box5_post HR9.out (fun w9 h9 gr => ?_)
        clear b0 bf0 r0 rf0 b1 bf1 r1 rf1 b2 bf2 r2 rf2 b3 bf3 r3 rf3 b4 bf4 r4 rf4
        have d0 := boxk_cell h9 0 _ rfl
        have d1 := boxk_cell h9 1 _ rfl
        have d2 := boxk_cell h9 2 _ rfl
        have d3 := boxk_cell h9 3 _ rfl
        have d4 := boxk_cell h9 4 _ rfl
        exact bodyPost_ret (v := .agg #[.int .i64 x.K, .string x.S, .int .i64 x.V.K, .int .i64 x.V.N, .string x.V.S]) (by simp [results, Tryd.results28, go_sem, d0, d1, d2, d3, d4]) rfl ⟨x, rfl, ⟨hx0, hx1⟩, below_set' HB9.out gr (Nat.le_refl _)⟩

set_option maxRecDepth 100000 in
set_option maxHeartbeats 1600000 in
theorem hasText_any (a : Option Addr) (n cap : Nat) (L : List ByteArray) (s : ByteArray) (w : World) (hz : L.length = n) (hr : RdS w a L) (hn : n ≤ 1048580) :
    Calls Tryd.prog 27 #[.slice a n cap, .string s] w fun e w' => e = .returned (.bool (hasS L s)) ∧ w' = w := by
  have HZ := hide hz
  clear hz
  go_enter Tryd.func27, Tryd.ntmps27
  go_wp2
  go_loop [5] (fun i => ∃ (k : Nat), k ≤ n ∧ i = .int .i64 k ∧ ∀ j, j < k → sAt L j ≠ s) (fun i => n - (intOf i).toNat)
  case atStart => exact ⟨0, Nat.zero_le _, rfl, fun j hj => absurd hj (Nat.not_lt_zero _)⟩
  case round =>
    obtain ⟨k, hk, rfl, hall⟩ := hrel
    have HA := hide hall
    clear hall
    by_cases hlt : k < n
    · obtain ⟨b, off, hab, hbw, hc⟩ := hr.open (by rw [HZ.out]; omega)
      have c0 := hc k (by rw [HZ.out]; exact hlt)
      clear hc
      subst hab
      by_cases he : sAt L k = s
      · have HV := hide (hasS_yes (by rw [HZ.out]; exact hlt) he)
        rw [he] at c0
        have k1 : (s.toList == s.toList) = true := by simp
        clear he
        go_wp2
        go_ret
        exact ⟨ret_bool HV.out.symm, rfl⟩
      · have k1 := beq_neS he
        have HE := hide he
        clear he
        go_wp2
        go_round
        case rel => exact ⟨k + 1, by omega, by go_num, fun j hj => by
            by_cases hjk : j = k
            · rw [hjk]; exact HE.out
            · exact HA.out j (by omega)⟩
        case measure => simp [intOf]; omega
    · have HV := hide (hasS_no (fun j hj => HA.out j (by rw [HZ.out] at hj; omega)))
      go_wp2
      go_ret
      exact ⟨ret_bool HV.out.symm, rfl⟩
end Go.Proofs.YtaflokfgbmlmaacDoor
