/-
  Terms that are drawn.
-/
import Derived.Test.YtbellpalomiokabJDrawSo
import Derived.Test.YtbellpalomiokabJDrawQ
import Derived.Test.YtbellpalomiokabJoined1
import Derived.Test.YtbellpalomiokabJoined2
import Derived.Test.YtbellpalomiokabJLawExpr
namespace Go.Proofs.Ytbellpalomiokab
open Go.RowKit
set_option linter.unusedVariables false

/-- a term lies in a box X on the way, the result's box R is as it was made -/
structure ExAt (w : World) (B q R X : Nat) (W : World) (y : X11) : Prop where
  cur : Cur B W q
  box : W.heap[X]? = some (.cells #[.string y.Op, .int .i64 y.L.K, .string y.L.S, .int .i64 y.L.V.K, .int .i64 y.L.V.N, .string y.L.V.S, .int .i64 y.R.K, .string y.R.S, .int .i64 y.R.V.K, .int .i64 y.R.V.N, .string y.R.V.S] 57 (0, 0))
  res : W.heap[R]? = some (.cells #[.string ⟨#[]⟩, .int .i64 0, .string ⟨#[]⟩, .int .i64 0, .int .i64 0, .string ⟨#[]⟩, .int .i64 0, .string ⟨#[]⟩, .int .i64 0, .int .i64 0, .string ⟨#[]⟩] 57 (0, 0))
  gr : w.grownBy W (some q)
  small : y.small
theorem ExAt.draws {w W W' : World} {B q R X : Nat} {y : X11} (h : ExAt w B q R X W y) (hX : X ≠ q) (hR : R ≠ q) (c : Cur B W' q) (g : W.grownBy W' (some q)) : ExAt w B q R X W' y :=
  ⟨c, box_grown h.box g hX, box_grown h.res g hR, grown_trans h.gr g, h.small⟩
theorem ExAt.put {w W W' : World} {B q R X : Nat} {y z : X11} (h : ExAt w B q R X W y) (hX : X ≠ q) (hXR : X ≠ R) (hB : B ≤ X) (hw : w.heap.size ≤ X) (g : W.grownBy W' (some X)) (hb : W'.heap[X]? = some (.cells #[.string z.Op, .int .i64 z.L.K, .string z.L.S, .int .i64 z.L.V.K, .int .i64 z.L.V.N, .string z.L.V.S, .int .i64 z.R.K, .string z.R.S, .int .i64 z.R.V.K, .int .i64 z.R.V.N, .string z.R.V.S] 57 (0, 0))) (hs : z.small) : ExAt w B q R X W' z :=
  ⟨h.cur.keep g (by simp; exact hX) (by intro k hk; cases hk; exact hB), hb, box_grown h.res g (fun e => hXR e.symm), grown_more h.gr g (by intro k hk; cases hk; exact hw), hs⟩
theorem ExAt.alloc {w W : World} {B q R X : Nat} {y : X11} (h : ExAt w B q R X W y) (o : Obj) : ExAt w B q R X (W.alloc o) y :=
  ⟨h.cur.keep (World.grownBy_alloc W o none) (by simp) (by simp), box_alloc h.box o, box_alloc h.res o, grown_trans h.gr (grown_alloc W o q), h.small⟩
theorem boxx_set0 {w : World} {q : Nat} {c0 c1 c2 c3 c4 c5 c6 c7 c8 c9 c10 : Value} {T : TypeId} (h : w.heap[q]? = some (.cells #[c0, c1, c2, c3, c4, c5, c6, c7, c8, c9, c10] T (0, 0))) (v : Value) :
    (w.setCell ⟨q, 0, none⟩ v).heap[q]? = some (.cells #[v, c1, c2, c3, c4, c5, c6, c7, c8, c9, c10] T (0, 0)) ∧ w.grownBy (w.setCell ⟨q, 0, none⟩ v) (some q) := boxk_set h 0 v
def DrawnX (w : World) (B q : Nat) (e : Ending) (w' : World) : Prop := ∃ x : X11, e = .returned (.agg #[.string x.Op, .int .i64 x.L.K, .string x.L.S, .int .i64 x.L.V.K, .int .i64 x.L.V.N, .string x.L.V.S, .int .i64 x.R.K, .string x.R.S, .int .i64 x.R.V.K, .int .i64 x.R.V.N, .string x.R.V.S]) ∧ x.small ∧ (x.L.K = 2 → x.L.V.ok = true) ∧ Cur B w' q ∧ w.grownBy w' (some q)

set_option maxRecDepth 100000 in
set_option maxHeartbeats 6400000 in
theorem l8Expr_any (B q : Nat) (w : World) (hc : Cur B w q) :
    Calls Try.prog 46 #[.pointer (some ⟨q, 0, none⟩)] w (DrawnX w B q) := by
  have hq := hc.lt
  have hB := hc.1
  go_enter Try.func46, Try.ntmps46
  go_wp2_with fail
  have c0 : Cur B (w.alloc (.cells #[.string ⟨#[]⟩, .int .i64 0, .string ⟨#[]⟩, .int .i64 0, .int .i64 0, .string ⟨#[]⟩, .int .i64 0, .string ⟨#[]⟩, .int .i64 0, .int .i64 0, .string ⟨#[]⟩] 57)) q := hc.keep (World.grownBy_alloc w _ none) (by simp) (by simp)
  have hR := boxk_new w #[.string ⟨#[]⟩, .int .i64 0, .string ⟨#[]⟩, .int .i64 0, .int .i64 0, .string ⟨#[]⟩, .int .i64 0, .string ⟨#[]⟩, .int .i64 0, .int .i64 0, .string ⟨#[]⟩] 57
  have G0 := grown_alloc w (.cells #[.string ⟨#[]⟩, .int .i64 0, .string ⟨#[]⟩, .int .i64 0, .int .i64 0, .string ⟨#[]⟩, .int .i64 0, .string ⟨#[]⟩, .int .i64 0, .int .i64 0, .string ⟨#[]⟩] 57) q
  refine (l7Arg_ok B q _ c0).mono ?_
  rintro e w1 ⟨l, rfl, hl, hlo, c1, g1⟩
  have HR := hide (box_grown hR g1 (by omega))
  have G1 : w.grownBy w1 (some q) := grown_trans G0 g1
  have HLo := hide hlo
  have z1 := G1.size
  have l1 := (Array.getElem?_eq_some_iff.1 HR.out).1
  have hqX : w1.heap.size ≠ q := by have := c1.lt; omega
  have hRX : w1.heap.size ≠ w.heap.size := by omega
  have hRq : w.heap.size ≠ q := by omega
  have hBX : B ≤ w1.heap.size := by omega
  have D0 : ExAt w B q w.heap.size w1.heap.size (w1.alloc (.cells #[.string ⟨#[]⟩, .int .i64 l.K, .string l.S, .int .i64 l.V.K, .int .i64 l.V.N, .string l.V.S, .int .i64 0, .string ⟨#[]⟩, .int .i64 0, .int .i64 0, .string ⟨#[]⟩] 57)) ⟨⟨#[]⟩, l, A5.zero⟩ :=
    ⟨c1.keep (World.grownBy_alloc w1 _ none) (by simp) (by simp), boxk_new w1 _ _, box_old HR.out l1 _, grown_trans G1 (grown_alloc w1 _ q), ⟨emp_small, hl, emp_small, emp_small⟩⟩
  clear g1 hR G0 c0 HR G1 c1 hc hlo
  go_wp2_with fail
  generalize w1.alloc (.cells #[.string ⟨#[]⟩, .int .i64 l.K, .string l.S, .int .i64 l.V.K, .int .i64 l.V.N, .string l.V.S, .int .i64 0, .string ⟨#[]⟩, .int .i64 0, .int .i64 0, .string ⟨#[]⟩] 57) = w2 at D0
  refine (l1Once_any B q 4 _ D0.cur (by omega) (by omega)).mono ?_
  rintro e w3 ⟨bb, rfl, c3, g3⟩
  have D3 := hide (D0.draws hqX hRq c3 g3)
  clear D0 c3 g3
  cases bb
  · obtain ⟨y, hy⟩ : ∃ y : X11, y = ⟨⟨#[]⟩, l, A5.zero⟩ := ⟨_, rfl⟩
    have HY : Hid (y.L.K = 2 → y.L.V.ok = true) := by unfold Hid; rw [hy]; exact HLo.out
    rw [← hy] at D3
    clear hy
    have l5 := (Array.getElem?_eq_some_iff.1 D3.out.res).1
    have a0 := boxk_cell D3.out.box 0 _ rfl
    have a1 := boxk_cell D3.out.box 1 _ rfl
    have a2 := boxk_cell D3.out.box 2 _ rfl
    have a3 := boxk_cell D3.out.box 3 _ rfl
    have a4 := boxk_cell D3.out.box 4 _ rfl
    have a5 := boxk_cell D3.out.box 5 _ rfl
    have a6 := boxk_cell D3.out.box 6 _ rfl
    have a7 := boxk_cell D3.out.box 7 _ rfl
    have a8 := boxk_cell D3.out.box 8 _ rfl
    have a9 := boxk_cell D3.out.box 9 _ rfl
    have a10 := boxk_cell D3.out.box 10 _ rfl
    have r0 := boxk_cell D3.out.res 0 _ rfl
    have f0 := boxk_frozen D3.out.res 0
    have r1 := boxk_cell D3.out.res 1 _ rfl
    have f1 := boxk_frozen D3.out.res 1
    have r2 := boxk_cell D3.out.res 2 _ rfl
    have f2 := boxk_frozen D3.out.res 2
    have r3 := boxk_cell D3.out.res 3 _ rfl
    have f3 := boxk_frozen D3.out.res 3
    have r4 := boxk_cell D3.out.res 4 _ rfl
    have f4 := boxk_frozen D3.out.res 4
    have r5 := boxk_cell D3.out.res 5 _ rfl
    have f5 := boxk_frozen D3.out.res 5
    have r6 := boxk_cell D3.out.res 6 _ rfl
    have f6 := boxk_frozen D3.out.res 6
    have r7 := boxk_cell D3.out.res 7 _ rfl
    have f7 := boxk_frozen D3.out.res 7
    have r8 := boxk_cell D3.out.res 8 _ rfl
    have f8 := boxk_frozen D3.out.res 8
    have r9 := boxk_cell D3.out.res 9 _ rfl
    have f9 := boxk_frozen D3.out.res 9
    have r10 := boxk_cell D3.out.res 10 _ rfl
    have f10 := boxk_frozen D3.out.res 10
    go_wp2
    refine box11_post D3.out.res (fun w6 h6 gr => ?_)
    clear a0 r0 f0 a1 r1 f1 a2 r2 f2 a3 r3 f3 a4 r4 f4 a5 r5 f5 a6 r6 f6 a7 r7 f7 a8 r8 f8 a9 r9 f9 a10 r10 f10
    have b0 := boxk_cell h6 0 _ rfl
    have b1 := boxk_cell h6 1 _ rfl
    have b2 := boxk_cell h6 2 _ rfl
    have b3 := boxk_cell h6 3 _ rfl
    have b4 := boxk_cell h6 4 _ rfl
    have b5 := boxk_cell h6 5 _ rfl
    have b6 := boxk_cell h6 6 _ rfl
    have b7 := boxk_cell h6 7 _ rfl
    have b8 := boxk_cell h6 8 _ rfl
    have b9 := boxk_cell h6 9 _ rfl
    have b10 := boxk_cell h6 10 _ rfl
    exact bodyPost_ret (v := .agg #[.string y.Op, .int .i64 y.L.K, .string y.L.S, .int .i64 y.L.V.K, .int .i64 y.L.V.N, .string y.L.V.S, .int .i64 y.R.K, .string y.R.S, .int .i64 y.R.V.K, .int .i64 y.R.V.N, .string y.R.V.S]) (by simp [results, Try.results46, go_sem, b0, b1, b2, b3, b4, b5, b6, b7, b8, b9, b10]) rfl ⟨y, rfl, D3.out.small, HY.out, D3.out.cur.keep gr (by simp; omega) (by intro k hk; cases hk; omega), grown_more D3.out.gr gr (by intro k hk; cases hk; omega)⟩
  · have hz3 := D3.out.gr.size
    have hq3 := D3.out.cur.lt
    go_wp2_with fail
    refine (l1Str_any B q w3.heap.size [⟨#[43]⟩, ⟨#[45]⟩] 2 _ (D3.out.alloc _).cur (by decide) (by decide) (by omega) (cells_strs w3 9 _)).mono ?_
    rintro e w4 ⟨s, rfl, hx, c4, g4⟩
    have HS : Hid (s.size ≤ 1048576) := by
      unfold Hid
      simp only [List.mem_cons, List.not_mem_nil, or_false] at hx
      rcases hx with rfl | rfl <;> decide
    have D4 := hide ((D3.out.alloc (.cells (([⟨#[43]⟩, ⟨#[45]⟩] : List ByteArray).map Value.string).toArray 9)).draws hqX hRq c4 g4)
    clear hx c4 g4 D3
    have r0 := boxk_cell D4.out.box 0 _ rfl
    have f0 := boxk_frozen D4.out.box 0
    have P := boxx_set0 D4.out.box (.string s)
    have D5 := hide (D4.out.put (z := ⟨s, l, A5.zero⟩) hqX hRX hBX z1 P.2 P.1 ⟨HS.out, hl, emp_small, emp_small⟩)
    clear P
    go_wp2_with fail
    clear r0 f0 D4
    generalize (w4.setCell ⟨w1.heap.size, 0, none⟩ (.string s)) = w5 at D5
    refine (l7Arg_ok B q _ D5.out.cur).mono ?_
    rintro e w6 ⟨t, rfl, ht, -, c6, g6⟩
    have D6 := hide (D5.out.draws hqX hRq c6 g6)
    clear c6 g6 D5
    have r6 := boxk_cell D6.out.box 6 _ rfl
    have f6 := boxk_frozen D6.out.box 6
    have r7 := boxk_cell D6.out.box 7 _ rfl
    have f7 := boxk_frozen D6.out.box 7
    have r8 := boxk_cell D6.out.box 8 _ rfl
    have f8 := boxk_frozen D6.out.box 8
    have r9 := boxk_cell D6.out.box 9 _ rfl
    have f9 := boxk_frozen D6.out.box 9
    have r10 := boxk_cell D6.out.box 10 _ rfl
    have f10 := boxk_frozen D6.out.box 10
    have P := box11_setR D6.out.box (.int .i64 t.K) (.string t.S) (.int .i64 t.V.K) (.int .i64 t.V.N) (.string t.V.S)
    have D7 := hide (D6.out.put (z := ⟨s, l, t⟩) hqX hRX hBX z1 P.2 P.1 ⟨HS.out, hl, ht⟩)
    clear P
    go_upto_region 5 with fail
    clear r6 f6 r7 f7 r8 f8 r9 f9 r10 f10 D6
    generalize (((((w6.setCell ⟨w1.heap.size, 6, none⟩ (.int .i64 t.K)).setCell ⟨w1.heap.size, 7, none⟩ (.string t.S)).setCell ⟨w1.heap.size, 8, none⟩ (.int .i64 t.V.K)).setCell ⟨w1.heap.size, 9, none⟩ (.int .i64 t.V.N)).setCell ⟨w1.heap.size, 10, none⟩ (.string t.V.S)) = w7 at D7
    obtain ⟨y, hy⟩ : ∃ y : X11, y = ⟨s, l, t⟩ := ⟨_, rfl⟩
    have HY : Hid (y.L.K = 2 → y.L.V.ok = true) := by unfold Hid; rw [hy]; exact HLo.out
    rw [← hy] at D7
    clear hy
    have l5 := (Array.getElem?_eq_some_iff.1 D7.out.res).1
    have a0 := boxk_cell D7.out.box 0 _ rfl
    have a1 := boxk_cell D7.out.box 1 _ rfl
    have a2 := boxk_cell D7.out.box 2 _ rfl
    have a3 := boxk_cell D7.out.box 3 _ rfl
    have a4 := boxk_cell D7.out.box 4 _ rfl
    have a5 := boxk_cell D7.out.box 5 _ rfl
    have a6 := boxk_cell D7.out.box 6 _ rfl
    have a7 := boxk_cell D7.out.box 7 _ rfl
    have a8 := boxk_cell D7.out.box 8 _ rfl
    have a9 := boxk_cell D7.out.box 9 _ rfl
    have a10 := boxk_cell D7.out.box 10 _ rfl
    have r0 := boxk_cell D7.out.res 0 _ rfl
    have f0 := boxk_frozen D7.out.res 0
    have r1 := boxk_cell D7.out.res 1 _ rfl
    have f1 := boxk_frozen D7.out.res 1
    have r2 := boxk_cell D7.out.res 2 _ rfl
    have f2 := boxk_frozen D7.out.res 2
    have r3 := boxk_cell D7.out.res 3 _ rfl
    have f3 := boxk_frozen D7.out.res 3
    have r4 := boxk_cell D7.out.res 4 _ rfl
    have f4 := boxk_frozen D7.out.res 4
    have r5 := boxk_cell D7.out.res 5 _ rfl
    have f5 := boxk_frozen D7.out.res 5
    have r6 := boxk_cell D7.out.res 6 _ rfl
    have f6 := boxk_frozen D7.out.res 6
    have r7 := boxk_cell D7.out.res 7 _ rfl
    have f7 := boxk_frozen D7.out.res 7
    have r8 := boxk_cell D7.out.res 8 _ rfl
    have f8 := boxk_frozen D7.out.res 8
    have r9 := boxk_cell D7.out.res 9 _ rfl
    have f9 := boxk_frozen D7.out.res 9
    have r10 := boxk_cell D7.out.res 10 _ rfl
    have f10 := boxk_frozen D7.out.res 10
    go_wp2
    refine box11_post D7.out.res (fun w6 h6 gr => ?_)
    clear a0 r0 f0 a1 r1 f1 a2 r2 f2 a3 r3 f3 a4 r4 f4 a5 r5 f5 a6 r6 f6 a7 r7 f7 a8 r8 f8 a9 r9 f9 a10 r10 f10
    have b0 := boxk_cell h6 0 _ rfl
    have b1 := boxk_cell h6 1 _ rfl
    have b2 := boxk_cell h6 2 _ rfl
    have b3 := boxk_cell h6 3 _ rfl
    have b4 := boxk_cell h6 4 _ rfl
    have b5 := boxk_cell h6 5 _ rfl
    have b6 := boxk_cell h6 6 _ rfl
    have b7 := boxk_cell h6 7 _ rfl
    have b8 := boxk_cell h6 8 _ rfl
    have b9 := boxk_cell h6 9 _ rfl
    have b10 := boxk_cell h6 10 _ rfl
    exact bodyPost_ret (v := .agg #[.string y.Op, .int .i64 y.L.K, .string y.L.S, .int .i64 y.L.V.K, .int .i64 y.L.V.N, .string y.L.V.S, .int .i64 y.R.K, .string y.R.S, .int .i64 y.R.V.K, .int .i64 y.R.V.N, .string y.R.V.S]) (by simp [results, Try.results46, go_sem, b0, b1, b2, b3, b4, b5, b6, b7, b8, b9, b10]) rfl ⟨y, rfl, D7.out.small, HY.out, D7.out.cur.keep gr (by simp; omega) (by intro k hk; cases hk; omega), grown_more D7.out.gr gr (by intro k hk; cases hk; omega)⟩

/-- some term was drawn -/
def DrawnXT (w : World) (e : Ending) (w' : World) : Prop := ∃ x : X11, e = .returned (.agg #[.string x.Op, .int .i64 x.L.K, .string x.L.S, .int .i64 x.L.V.K, .int .i64 x.L.V.N, .string x.L.V.S, .int .i64 x.R.K, .string x.R.S, .int .i64 x.R.V.K, .int .i64 x.R.V.N, .string x.R.V.S]) ∧ x.small ∧ Below w.heap.size w w'

set_option maxRecDepth 100000 in
set_option maxHeartbeats 6400000 in
theorem drawExprOk_any (a : Option Addr) (cap : Nat) (code : List UInt8) (w : World) (hr : Rd w a code) (hn : code.length ≤ 1048576) :
    Calls Try.prog 51 #[.slice a code.length cap] w (DrawnXT w) := by
  go_enter Try.func51, Try.ntmps51
  go_wp2_with fail
  have b1 := below_al w (.cells #[.string ⟨#[]⟩, .int .i64 0, .string ⟨#[]⟩, .int .i64 0, .int .i64 0, .string ⟨#[]⟩, .int .i64 0, .string ⟨#[]⟩, .int .i64 0, .int .i64 0, .string ⟨#[]⟩] 57)
  have r1 := boxk_new w #[.string ⟨#[]⟩, .int .i64 0, .string ⟨#[]⟩, .int .i64 0, .int .i64 0, .string ⟨#[]⟩, .int .i64 0, .string ⟨#[]⟩, .int .i64 0, .int .i64 0, .string ⟨#[]⟩] 57
  have z1 : (w.alloc (.cells #[.string ⟨#[]⟩, .int .i64 0, .string ⟨#[]⟩, .int .i64 0, .int .i64 0, .string ⟨#[]⟩, .int .i64 0, .string ⟨#[]⟩, .int .i64 0, .int .i64 0, .string ⟨#[]⟩] 57)).heap.size = w.heap.size + 1 := by simp
  have gg := World.grownBy_alloc w (.cells #[.string ⟨#[]⟩, .int .i64 0, .string ⟨#[]⟩, .int .i64 0, .int .i64 0, .string ⟨#[]⟩, .int .i64 0, .string ⟨#[]⟩, .int .i64 0, .int .i64 0, .string ⟨#[]⟩] 57) (some (w.heap.size + 1))
  generalize w.alloc (.cells #[.string ⟨#[]⟩, .int .i64 0, .string ⟨#[]⟩, .int .i64 0, .int .i64 0, .string ⟨#[]⟩, .int .i64 0, .string ⟨#[]⟩, .int .i64 0, .int .i64 0, .string ⟨#[]⟩] 57) = w0 at b1 r1 z1 gg ⊢
  refine (l1New_any w.heap.size a cap code w0 (hr.toB.below b1) hn b1.size).mono ?_
  rintro e w1 ⟨rfl, c1, g1⟩
  rw [z1] at c1 ⊢
  have q1 := c1.lt
  have R1 := hide (show w1.heap[w.heap.size]? = _ from (g1.block _ (by omega) (by simp)).trans r1)
  have G1 : w.grownBy w1 (some (w.heap.size + 1)) := grown_trans gg ⟨g1.os, g1.tape, g1.output, g1.size, fun i hi hne => g1.block i hi (by simp)⟩
  clear r1 b1 g1 z1 gg
  go_wp2_with fail
  refine (l8Expr_any w.heap.size (w.heap.size + 1) w1 c1).mono ?_
  rintro e w2 ⟨x, rfl, hx, -, c2, g2⟩
  have HR := hide (box_grown R1.out g2 (by omega))
  have G2 : w.grownBy w2 (some (w.heap.size + 1)) := grown_trans G1 g2
  have z1 := G2.size
  have s2 := g2.size
  have hqX : w2.heap.size ≠ w.heap.size + 1 := by omega
  have hRX : w2.heap.size ≠ w.heap.size := by omega
  have hRq : w.heap.size ≠ w.heap.size + 1 := by omega
  have hBX : w.heap.size ≤ w2.heap.size := by omega
  have D0 : ExAt w w.heap.size (w.heap.size + 1) w.heap.size w2.heap.size (w2.alloc (.cells #[.string x.Op, .int .i64 x.L.K, .string x.L.S, .int .i64 x.L.V.K, .int .i64 x.L.V.N, .string x.L.V.S, .int .i64 x.R.K, .string x.R.S, .int .i64 x.R.V.K, .int .i64 x.R.V.N, .string x.R.V.S] 57)) x :=
    ⟨c2.keep (World.grownBy_alloc w2 _ none) (by simp) (by simp), boxk_new w2 _ _, box_old HR.out (by omega) _, grown_trans G2 (grown_alloc w2 _ _), hx⟩
  clear g2 R1 G1 HR G2 c1 c2 hx
  go_wp2_with fail
  generalize w2.alloc (.cells #[.string x.Op, .int .i64 x.L.K, .string x.L.S, .int .i64 x.L.V.K, .int .i64 x.L.V.N, .string x.L.V.S, .int .i64 x.R.K, .string x.R.S, .int .i64 x.R.V.K, .int .i64 x.R.V.N, .string x.R.V.S] 57) = w2b at D0
  refine (l1Below_any w.heap.size (w.heap.size + 1) 6 _ D0.cur (by omega) (by omega)).mono ?_
  rintro e w3 ⟨n, rfl, n0, n1, c3, g3⟩
  have D3 := hide (D0.draws hqX hRq c3 g3)
  clear D0 c3 g3
  by_cases h0 : n = 0
  case' pos =>
    subst h0
    have hz3 := D3.out.gr.size
    have hq3 := D3.out.cur.lt
    go_wp2_with fail
    refine (l1Str_any w.heap.size (w.heap.size + 1) w3.heap.size [⟨#[]⟩, ⟨#[42]⟩, ⟨#[45]⟩] 3 _ (D3.out.alloc _).cur (by decide) (by decide) (by omega) (cells_strs w3 9 _)).mono ?_
    rintro e w4 ⟨s, rfl, hx, c4, g4⟩
    have HS : Hid (s.size ≤ 1048576) := by
      unfold Hid
      simp only [List.mem_cons, List.not_mem_nil, or_false] at hx
      rcases hx with rfl | rfl | rfl <;> decide
    have D4 := hide ((D3.out.alloc (.cells (([⟨#[]⟩, ⟨#[42]⟩, ⟨#[45]⟩] : List ByteArray).map Value.string).toArray 9)).draws hqX hRq c4 g4)
    clear hx c4 g4 D3
    have r0 := boxk_cell D4.out.box 0 _ rfl
    have f0 := boxk_frozen D4.out.box 0
    have P := boxx_set0 D4.out.box (.string s)
    have D5 := hide (D4.out.put (z := ⟨s, x.L, x.R⟩) hqX hRX hBX z1 P.2 P.1 ⟨HS.out, D4.out.small.2⟩)
    clear P
    go_upto_region 10 with fail
    clear r0 f0 D4
    generalize (w4.setCell ⟨w2.heap.size, 0, none⟩ (.string s)) = w5 at D5
    generalize (⟨s, x.L, x.R⟩ : X11) = y at D5
  case' neg =>
    have k0 : (n == 0) = false := by simpa using h0
    by_cases h1 : n = 1
    case' pos =>
      subst h1
      clear h0 k0
      go_wp2_with fail
      refine (l6Arg_any w.heap.size (w.heap.size + 1) _ D3.out.cur).mono ?_
      rintro e w4 ⟨t, rfl, ht, c4, g4⟩
      have D4 := hide (D3.out.draws hqX hRq c4 g4)
      clear c4 g4 D3
      have r1 := boxk_cell D4.out.box 1 _ rfl
      have f1 := boxk_frozen D4.out.box 1
      have r2 := boxk_cell D4.out.box 2 _ rfl
      have f2 := boxk_frozen D4.out.box 2
      have r3 := boxk_cell D4.out.box 3 _ rfl
      have f3 := boxk_frozen D4.out.box 3
      have r4 := boxk_cell D4.out.box 4 _ rfl
      have f4 := boxk_frozen D4.out.box 4
      have r5 := boxk_cell D4.out.box 5 _ rfl
      have f5 := boxk_frozen D4.out.box 5
      have P := box11_setL D4.out.box (.int .i64 t.K) (.string t.S) (.int .i64 t.V.K) (.int .i64 t.V.N) (.string t.V.S)
      have D5 := hide (D4.out.put (z := ⟨x.Op, t, x.R⟩) hqX hRX hBX z1 P.2 P.1 ⟨D4.out.small.1, ht, D4.out.small.2.2⟩)
      clear P
      go_upto_region 10 with fail
      clear r1 f1 r2 f2 r3 f3 r4 f4 r5 f5 D4
      generalize (((((w4.setCell ⟨w2.heap.size, 1, none⟩ (.int .i64 t.K)).setCell ⟨w2.heap.size, 2, none⟩ (.string t.S)).setCell ⟨w2.heap.size, 3, none⟩ (.int .i64 t.V.K)).setCell ⟨w2.heap.size, 4, none⟩ (.int .i64 t.V.N)).setCell ⟨w2.heap.size, 5, none⟩ (.string t.V.S)) = w5 at D5
      generalize (⟨x.Op, t, x.R⟩ : X11) = y at D5
    case' neg =>
      have k1 : (n == 1) = false := by simpa using h1
      by_cases h2 : n = 2
      case' pos =>
        subst h2
        clear h0 k0 h1 k1
        go_wp2_with fail
        refine (l6Arg_any w.heap.size (w.heap.size + 1) _ D3.out.cur).mono ?_
        rintro e w4 ⟨t, rfl, ht, c4, g4⟩
        have D4 := hide (D3.out.draws hqX hRq c4 g4)
        clear c4 g4 D3
        have r6 := boxk_cell D4.out.box 6 _ rfl
        have f6 := boxk_frozen D4.out.box 6
        have r7 := boxk_cell D4.out.box 7 _ rfl
        have f7 := boxk_frozen D4.out.box 7
        have r8 := boxk_cell D4.out.box 8 _ rfl
        have f8 := boxk_frozen D4.out.box 8
        have r9 := boxk_cell D4.out.box 9 _ rfl
        have f9 := boxk_frozen D4.out.box 9
        have r10 := boxk_cell D4.out.box 10 _ rfl
        have f10 := boxk_frozen D4.out.box 10
        have P := box11_setR D4.out.box (.int .i64 t.K) (.string t.S) (.int .i64 t.V.K) (.int .i64 t.V.N) (.string t.V.S)
        have D5 := hide (D4.out.put (z := ⟨x.Op, x.L, t⟩) hqX hRX hBX z1 P.2 P.1 ⟨D4.out.small.1, D4.out.small.2.1, ht⟩)
        clear P
        go_upto_region 10 with fail
        clear r6 f6 r7 f7 r8 f8 r9 f9 r10 f10 D4
        generalize (((((w4.setCell ⟨w2.heap.size, 6, none⟩ (.int .i64 t.K)).setCell ⟨w2.heap.size, 7, none⟩ (.string t.S)).setCell ⟨w2.heap.size, 8, none⟩ (.int .i64 t.V.K)).setCell ⟨w2.heap.size, 9, none⟩ (.int .i64 t.V.N)).setCell ⟨w2.heap.size, 10, none⟩ (.string t.V.S)) = w5 at D5
        generalize (⟨x.Op, x.L, t⟩ : X11) = y at D5
      case' neg =>
        have k2 : (n == 2) = false := by simpa using h2
        go_upto_region 10 with fail
        clear h0 h1 h2 k0 k1 k2
        obtain ⟨y, hy⟩ : ∃ y, y = x := ⟨_, rfl⟩
        obtain ⟨w5, hw5⟩ : ∃ w5, w5 = w3 := ⟨_, rfl⟩
        rw [← hw5, ← hy] at D3
        rw [← hw5]
        have D5 := D3
        clear D3 hw5 hy
  all_goals
    have hz5 := D5.out.gr
    have l5 := (Array.getElem?_eq_some_iff.1 D5.out.res).1
    have a0 := boxk_cell D5.out.box 0 _ rfl
    have a1 := boxk_cell D5.out.box 1 _ rfl
    have a2 := boxk_cell D5.out.box 2 _ rfl
    have a3 := boxk_cell D5.out.box 3 _ rfl
    have a4 := boxk_cell D5.out.box 4 _ rfl
    have a5 := boxk_cell D5.out.box 5 _ rfl
    have a6 := boxk_cell D5.out.box 6 _ rfl
    have a7 := boxk_cell D5.out.box 7 _ rfl
    have a8 := boxk_cell D5.out.box 8 _ rfl
    have a9 := boxk_cell D5.out.box 9 _ rfl
    have a10 := boxk_cell D5.out.box 10 _ rfl
    have r0 := boxk_cell D5.out.res 0 _ rfl
    have f0 := boxk_frozen D5.out.res 0
    have r1 := boxk_cell D5.out.res 1 _ rfl
    have f1 := boxk_frozen D5.out.res 1
    have r2 := boxk_cell D5.out.res 2 _ rfl
    have f2 := boxk_frozen D5.out.res 2
    have r3 := boxk_cell D5.out.res 3 _ rfl
    have f3 := boxk_frozen D5.out.res 3
    have r4 := boxk_cell D5.out.res 4 _ rfl
    have f4 := boxk_frozen D5.out.res 4
    have r5 := boxk_cell D5.out.res 5 _ rfl
    have f5 := boxk_frozen D5.out.res 5
    have r6 := boxk_cell D5.out.res 6 _ rfl
    have f6 := boxk_frozen D5.out.res 6
    have r7 := boxk_cell D5.out.res 7 _ rfl
    have f7 := boxk_frozen D5.out.res 7
    have r8 := boxk_cell D5.out.res 8 _ rfl
    have f8 := boxk_frozen D5.out.res 8
    have r9 := boxk_cell D5.out.res 9 _ rfl
    have f9 := boxk_frozen D5.out.res 9
    have r10 := boxk_cell D5.out.res 10 _ rfl
    have f10 := boxk_frozen D5.out.res 10
    go_wp2
    refine box11_post D5.out.res (fun w6 h6 gr => ?_)
    clear a0 r0 f0 a1 r1 f1 a2 r2 f2 a3 r3 f3 a4 r4 f4 a5 r5 f5 a6 r6 f6 a7 r7 f7 a8 r8 f8 a9 r9 f9 a10 r10 f10
    have b0 := boxk_cell h6 0 _ rfl
    have b1 := boxk_cell h6 1 _ rfl
    have b2 := boxk_cell h6 2 _ rfl
    have b3 := boxk_cell h6 3 _ rfl
    have b4 := boxk_cell h6 4 _ rfl
    have b5 := boxk_cell h6 5 _ rfl
    have b6 := boxk_cell h6 6 _ rfl
    have b7 := boxk_cell h6 7 _ rfl
    have b8 := boxk_cell h6 8 _ rfl
    have b9 := boxk_cell h6 9 _ rfl
    have b10 := boxk_cell h6 10 _ rfl
    exact bodyPost_ret (v := .agg #[.string y.Op, .int .i64 y.L.K, .string y.L.S, .int .i64 y.L.V.K, .int .i64 y.L.V.N, .string y.L.V.S, .int .i64 y.R.K, .string y.R.S, .int .i64 y.R.V.K, .int .i64 y.R.V.N, .string y.R.V.S]) (by simp [results, Try.results51, go_sem, b0, b1, b2, b3, b4, b5, b6, b7, b8, b9, b10]) rfl ⟨y, rfl, D5.out.small, ((Below.refl _ _).grown D5.out.gr (Nat.le_refl _) (fun k hk => by cases hk; omega)).grown gr D5.out.gr.size (fun k hk => by cases hk; exact Nat.le_refl _)⟩

end Go.Proofs.Ytbellpalomiokab
