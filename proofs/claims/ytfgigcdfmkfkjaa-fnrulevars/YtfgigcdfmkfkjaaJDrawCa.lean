/-
  The contracts of the draws of conditions (one bent, or not), and of what Holds is asked.
-/
import Derived.Test.YtfgigcdfmkfkjaaJoined2
import Derived.Test.YtfgigcdfmkfkjaaJDrawP
namespace Go.Proofs.Ytfgigcdfmkfkjaa
open Go.RowKit
set_option linter.unusedVariables false

/-- a condition in its block X, the answer's block R, the cursor q -/
structure CdAt (w : World) (B q R X : Nat) (W : World) (y : C11) : Prop where
  cur : Cur B W q
  box : W.heap[X]? = some (.cells #[.int .i64 y.Op, .int .i64 y.L.K, .string y.L.S, .int .i64 y.L.V.K, .int .i64 y.L.V.N, .string y.L.V.S, .int .i64 y.R.K, .string y.R.S, .int .i64 y.R.V.K, .int .i64 y.R.V.N, .string y.R.V.S] 162 (0, 0))
  res : W.heap[R]? = some (.cells #[.int .i64 0, .int .i64 0, .string ⟨#[]⟩, .int .i64 0, .int .i64 0, .string ⟨#[]⟩, .int .i64 0, .string ⟨#[]⟩, .int .i64 0, .int .i64 0, .string ⟨#[]⟩] 162 (0, 0))
  gr : w.grownBy W (some q)
  small : y.small
theorem CdAt.draws {w W W' : World} {B q R X : Nat} {y : C11} (h : CdAt w B q R X W y) (hX : X ≠ q) (hR : R ≠ q) (c : Cur B W' q) (g : W.grownBy W' (some q)) : CdAt w B q R X W' y :=
  ⟨c, box_grown h.box g hX, box_grown h.res g hR, grown_trans h.gr g, h.small⟩
theorem CdAt.put {w W W' : World} {B q R X : Nat} {y z : C11} (h : CdAt w B q R X W y) (hX : X ≠ q) (hXR : X ≠ R) (hB : B ≤ X) (hw : w.heap.size ≤ X) (g : W.grownBy W' (some X)) (hb : W'.heap[X]? = some (.cells #[.int .i64 z.Op, .int .i64 z.L.K, .string z.L.S, .int .i64 z.L.V.K, .int .i64 z.L.V.N, .string z.L.V.S, .int .i64 z.R.K, .string z.R.S, .int .i64 z.R.V.K, .int .i64 z.R.V.N, .string z.R.V.S] 162 (0, 0))) (hs : z.small) : CdAt w B q R X W' z :=
  ⟨h.cur.keep g (by simp; exact hX) (by intro k hk; cases hk; exact hB), hb, box_grown h.res g (fun e => hXR e.symm), grown_more h.gr g (by intro k hk; cases hk; exact hw), hs⟩
theorem box11_set0 {w : World} {q : Nat} {c0 c1 c2 c3 c4 c5 c6 c7 c8 c9 c10 : Value} {T : TypeId} (h : w.heap[q]? = some (.cells #[c0, c1, c2, c3, c4, c5, c6, c7, c8, c9, c10] T (0, 0))) (v : Value) :
    (w.setCell ⟨q, 0, none⟩ v).heap[q]? = some (.cells #[v, c1, c2, c3, c4, c5, c6, c7, c8, c9, c10] T (0, 0)) ∧ w.grownBy (w.setCell ⟨q, 0, none⟩ v) (some q) := boxk_set h 0 v

set_option maxRecDepth 100000 in
set_option maxHeartbeats 3200000 in
theorem l7Any_any (B q : Nat) (w : World) (hc : Cur B w q) :
    Calls Try.prog 147 #[.pointer (some ⟨q, 0, none⟩)] w (DrawnC w B q) := by
  have hq := hc.lt
  have hB := hc.1
  go_enter Try.func147, Try.ntmps147
  go_wp2_with fail
  have c0 : Cur B (w.alloc (.cells #[.int .i64 0, .int .i64 0, .string ⟨#[]⟩, .int .i64 0, .int .i64 0, .string ⟨#[]⟩, .int .i64 0, .string ⟨#[]⟩, .int .i64 0, .int .i64 0, .string ⟨#[]⟩] 162)) q := hc.keep (World.grownBy_alloc w _ none) (by simp) (by simp)
  have hR := boxk_new w #[.int .i64 0, .int .i64 0, .string ⟨#[]⟩, .int .i64 0, .int .i64 0, .string ⟨#[]⟩, .int .i64 0, .string ⟨#[]⟩, .int .i64 0, .int .i64 0, .string ⟨#[]⟩] 162
  have G0 := grown_alloc w (.cells #[.int .i64 0, .int .i64 0, .string ⟨#[]⟩, .int .i64 0, .int .i64 0, .string ⟨#[]⟩, .int .i64 0, .string ⟨#[]⟩, .int .i64 0, .int .i64 0, .string ⟨#[]⟩] 162) q
  refine (l7Draw_any B q _ c0).mono ?_
  rintro e w1 ⟨x, rfl, hx, c1, g1⟩
  have HR := hide (box_grown hR g1 (by omega))
  have G1 : w.grownBy w1 (some q) := grown_trans G0 g1
  have z1 := G1.size
  have l1 := (Array.getElem?_eq_some_iff.1 HR.out).1
  have hqX : w1.heap.size ≠ q := by have := c1.lt; omega
  have hRX : w1.heap.size ≠ w.heap.size := by omega
  have hRq : w.heap.size ≠ q := by omega
  have hBX : B ≤ w1.heap.size := by omega
  have D0 : CdAt w B q w.heap.size w1.heap.size (w1.alloc (.cells #[.int .i64 x.Op, .int .i64 x.L.K, .string x.L.S, .int .i64 x.L.V.K, .int .i64 x.L.V.N, .string x.L.V.S, .int .i64 x.R.K, .string x.R.S, .int .i64 x.R.V.K, .int .i64 x.R.V.N, .string x.R.V.S] 162)) x :=
    ⟨c1.keep (World.grownBy_alloc w1 _ none) (by simp) (by simp), boxk_new w1 _ _, box_old HR.out l1 _, grown_trans G1 (grown_alloc w1 _ q), hx⟩
  clear g1 hR G0 c0 HR G1 c1 hc
  go_wp2_with fail
  generalize w1.alloc (.cells #[.int .i64 x.Op, .int .i64 x.L.K, .string x.L.S, .int .i64 x.L.V.K, .int .i64 x.L.V.N, .string x.L.V.S, .int .i64 x.R.K, .string x.R.S, .int .i64 x.R.V.K, .int .i64 x.R.V.N, .string x.R.V.S] 162) = w2 at D0
  refine (l1Below_any B q 8 _ D0.cur (by omega) (by omega)).mono ?_
  rintro e w3 ⟨n, rfl, n0, n1, c3, g3⟩
  have D3 := hide (D0.draws hqX hRq c3 g3)
  clear D0 c3 g3
  by_cases h0 : n = 0
  case' pos =>
    subst h0
    go_wp2_with fail
    refine (l1Below_any B q 6 _ D3.out.cur (by omega) (by omega)).mono ?_
    rintro e w4 ⟨m, rfl, m0, m1, c4, g4⟩
    have D4 := hide (D3.out.draws hqX hRq c4 g4)
    clear c4 g4 D3
    have r0 := boxk_cell D4.out.box 0 _ rfl
    have f0 := boxk_frozen D4.out.box 0
    have P := box11_set0 D4.out.box (.int .i64 m)
    have D5 := hide (D4.out.put (z := ⟨m, x.L, x.R⟩) hqX hRX hBX z1 P.2 P.1 D4.out.small)
    clear P
    go_upto_region 9 with fail
    clear r0 f0 D4
    generalize (w4.setCell ⟨w1.heap.size, 0, none⟩ (.int .i64 m)) = w5 at D5
    generalize (⟨m, x.L, x.R⟩ : C11) = y at D5
  case' neg =>
    have k0 : (n == 0) = false := by simpa using h0
    by_cases h1 : n = 1
    case' pos =>
      subst h1
      clear h0 k0
      go_wp2_with fail
      refine (l6Arg_any B q _ D3.out.cur).mono ?_
      rintro e w4 ⟨t, rfl, ht, c4, g4⟩
      have D4 := hide (D3.out.draws hqX hRq c4 g4)
      clear c4 g4 D3
      have r1 := boxk_cell D4.out.box 1 _ rfl
      have f1 := boxk_frozen D4.out.box 1
      have r2 := boxk_cell D4.out.box 2 _ rfl
      have f2 := boxk_frozen D4.out.box 2
      have r3 := boxk_cell D4.out.box 3 _ rfl
      have f3 := boxk_frozen D4.out.box 3
      have r4 := boxk_cell D4.out.box 4 _ rfl
      have f4 := boxk_frozen D4.out.box 4
      have r5 := boxk_cell D4.out.box 5 _ rfl
      have f5 := boxk_frozen D4.out.box 5
      have P := box11_setL D4.out.box (.int .i64 t.K) (.string t.S) (.int .i64 t.V.K) (.int .i64 t.V.N) (.string t.V.S)
      have D5 := hide (D4.out.put (z := ⟨x.Op, t, x.R⟩) hqX hRX hBX z1 P.2 P.1 ⟨ht, D4.out.small.2⟩)
      clear P
      go_upto_region 9 with fail
      clear r1 f1 r2 f2 r3 f3 r4 f4 r5 f5 D4
      generalize (((((w4.setCell ⟨w1.heap.size, 1, none⟩ (.int .i64 t.K)).setCell ⟨w1.heap.size, 2, none⟩ (.string t.S)).setCell ⟨w1.heap.size, 3, none⟩ (.int .i64 t.V.K)).setCell ⟨w1.heap.size, 4, none⟩ (.int .i64 t.V.N)).setCell ⟨w1.heap.size, 5, none⟩ (.string t.V.S)) = w5 at D5
      generalize (⟨x.Op, t, x.R⟩ : C11) = y at D5
    case' neg =>
      have k1 : (n == 1) = false := by simpa using h1
      by_cases h2 : n = 2
      case' pos =>
        subst h2
        clear h0 k0 h1 k1
        go_wp2_with fail
        refine (l1Below_any B q 5 _ D3.out.cur (by omega) (by omega)).mono ?_
        rintro e w4 ⟨m, rfl, m0, m1, c4, g4⟩
        have D4 := hide (D3.out.draws hqX hRq c4 g4)
        clear c4 g4 D3
        have r6 := boxk_cell D4.out.box 6 _ rfl
        have f6 := boxk_frozen D4.out.box 6
        have r7 := boxk_cell D4.out.box 7 _ rfl
        have f7 := boxk_frozen D4.out.box 7
        have r8 := boxk_cell D4.out.box 8 _ rfl
        have f8 := boxk_frozen D4.out.box 8
        have r9 := boxk_cell D4.out.box 9 _ rfl
        have f9 := boxk_frozen D4.out.box 9
        have r10 := boxk_cell D4.out.box 10 _ rfl
        have f10 := boxk_frozen D4.out.box 10
        have P := box11_setR D4.out.box (.int .i64 m) (.string ⟨#[]⟩) (.int .i64 0) (.int .i64 0) (.string ⟨#[]⟩)
        have D5 := hide (D4.out.put (z := ⟨x.Op, x.L, ⟨m, ⟨#[]⟩, ⟨0, 0, ⟨#[]⟩⟩⟩⟩) hqX hRX hBX z1 P.2 P.1 ⟨D4.out.small.1, emp_small, emp_small⟩)
        clear P
        go_upto_region 9 with fail
        clear r6 f6 r7 f7 r8 f8 r9 f9 r10 f10 D4
        generalize (((((w4.setCell ⟨w1.heap.size, 6, none⟩ (.int .i64 m)).setCell ⟨w1.heap.size, 7, none⟩ (.string ⟨#[]⟩)).setCell ⟨w1.heap.size, 8, none⟩ (.int .i64 0)).setCell ⟨w1.heap.size, 9, none⟩ (.int .i64 0)).setCell ⟨w1.heap.size, 10, none⟩ (.string ⟨#[]⟩)) = w5 at D5
        generalize (⟨x.Op, x.L, ⟨m, ⟨#[]⟩, ⟨0, 0, ⟨#[]⟩⟩⟩⟩ : C11) = y at D5
      case' neg =>
        have k2 : (n == 2) = false := by simpa using h2
        go_upto_region 9 with fail
        clear h0 h1 h2 k0 k1 k2
        obtain ⟨y, hy⟩ : ∃ y, y = x := ⟨_, rfl⟩
        obtain ⟨w5, hw5⟩ : ∃ w5, w5 = w3 := ⟨_, rfl⟩
        rw [← hw5, ← hy] at D3
        rw [← hw5]
        have D5 := D3
        clear D3 hw5 hy
  all_goals
    have l5 := (Array.getElem?_eq_some_iff.1 D5.out.res).1
    have a0 := boxk_cell D5.out.box 0 _ rfl
    have a1 := boxk_cell D5.out.box 1 _ rfl
    have a2 := boxk_cell D5.out.box 2 _ rfl
    have a3 := boxk_cell D5.out.box 3 _ rfl
    have a4 := boxk_cell D5.out.box 4 _ rfl
    have a5 := boxk_cell D5.out.box 5 _ rfl
    have a6 := boxk_cell D5.out.box 6 _ rfl
    have a7 := boxk_cell D5.out.box 7 _ rfl
    have a8 := boxk_cell D5.out.box 8 _ rfl
    have a9 := boxk_cell D5.out.box 9 _ rfl
    have a10 := boxk_cell D5.out.box 10 _ rfl
    have r0 := boxk_cell D5.out.res 0 _ rfl
    have f0 := boxk_frozen D5.out.res 0
    have r1 := boxk_cell D5.out.res 1 _ rfl
    have f1 := boxk_frozen D5.out.res 1
    have r2 := boxk_cell D5.out.res 2 _ rfl
    have f2 := boxk_frozen D5.out.res 2
    have r3 := boxk_cell D5.out.res 3 _ rfl
    have f3 := boxk_frozen D5.out.res 3
    have r4 := boxk_cell D5.out.res 4 _ rfl
    have f4 := boxk_frozen D5.out.res 4
    have r5 := boxk_cell D5.out.res 5 _ rfl
    have f5 := boxk_frozen D5.out.res 5
    have r6 := boxk_cell D5.out.res 6 _ rfl
    have f6 := boxk_frozen D5.out.res 6
    have r7 := boxk_cell D5.out.res 7 _ rfl
    have f7 := boxk_frozen D5.out.res 7
    have r8 := boxk_cell D5.out.res 8 _ rfl
    have f8 := boxk_frozen D5.out.res 8
    have r9 := boxk_cell D5.out.res 9 _ rfl
    have f9 := boxk_frozen D5.out.res 9
    have r10 := boxk_cell D5.out.res 10 _ rfl
    have f10 := boxk_frozen D5.out.res 10
    go_wp2
    refine box11_post D5.out.res (fun w6 h6 gr => ?_)
    clear r0 f0 a0 r1 f1 a1 r2 f2 a2 r3 f3 a3 r4 f4 a4 r5 f5 a5 r6 f6 a6 r7 f7 a7 r8 f8 a8 r9 f9 a9 r10 f10 a10
    have b0 := boxk_cell h6 0 _ rfl
    have b1 := boxk_cell h6 1 _ rfl
    have b2 := boxk_cell h6 2 _ rfl
    have b3 := boxk_cell h6 3 _ rfl
    have b4 := boxk_cell h6 4 _ rfl
    have b5 := boxk_cell h6 5 _ rfl
    have b6 := boxk_cell h6 6 _ rfl
    have b7 := boxk_cell h6 7 _ rfl
    have b8 := boxk_cell h6 8 _ rfl
    have b9 := boxk_cell h6 9 _ rfl
    have b10 := boxk_cell h6 10 _ rfl
    refine bodyPost_ret (v := .agg #[.int .i64 y.Op, .int .i64 y.L.K, .string y.L.S, .int .i64 y.L.V.K, .int .i64 y.L.V.N, .string y.L.V.S, .int .i64 y.R.K, .string y.R.S, .int .i64 y.R.V.K, .int .i64 y.R.V.N, .string y.R.V.S]) (by simp [results, Try.results147, go_sem, b0, b1, b2, b3, b4, b5, b6, b7, b8, b9, b10]) rfl ⟨y, rfl, D5.out.small, D5.out.cur.keep gr (by simp; omega) (by intro k hk; cases hk; omega), grown_more D5.out.gr gr (by intro k hk; cases hk; omega)⟩
end Go.Proofs.Ytfgigcdfmkfkjaa
