/-
  Terms and binds that are drawn together.
-/
import Derived.Test.YtbellpalomiokabJDrawX
import Derived.Test.YtbellpalomiokabJoined1
import Derived.Deep.AppendLies
namespace Go.Proofs.Ytbellpalomiokab
open Go.RowKit
set_option linter.unusedVariables false

theorem src_row (W : World) (cs : Array Value) (T : TypeId) : ∀ j u, cs.toList[j]? = some u → (W.alloc (.cells cs T)).cell? ((⟨W.heap.size, 0, none⟩ : Addr).add j) = some u := by
  intro j u hj
  rw [Addr.add_lit, Nat.zero_add]
  have hb : (W.alloc (.cells cs T)).heap[W.heap.size]? = some (.cells cs T (0, 0)) := by rw [heap_alloc_new]
  rw [cell_of_row _ _ j _ _ (0, 0) hb]
  simpa using hj
def bX (n : Int) : B4 := ⟨⟨#[88]⟩, ⟨1, n, ⟨#[]⟩⟩⟩
def bY : B4 := ⟨⟨#[89]⟩, ⟨1, 2, ⟨#[]⟩⟩⟩
def twoC (n : Int) : Array Value := #[.string ⟨#[88]⟩, .int .i64 1, .int .i64 n, .string ⟨#[]⟩, .string ⟨#[89]⟩, .int .i64 1, .int .i64 2, .string ⟨#[]⟩]
theorem twoC_row (M : List B4) (n : Int) : rowOf B4.cs M ++ (twoC n).toList = rowOf B4.cs (M ++ [bX n, bY]) := by
  rw [rowOf_append]
  congr 1
theorem twoC_one (n : Int) : ∀ u ∈ (twoC n).toList, u.oneCell' = true := by
  intro u hu
  simp only [twoC, List.mem_cons, List.not_mem_nil, or_false] at hu
  rcases hu with rfl | rfl | rfl | rfl | rfl | rfl | rfl | rfl <;> rfl
theorem sz88 : (⟨#[88]⟩ : ByteArray).size ≤ 1048576 := by decide
theorem sz89 : (⟨#[89]⟩ : ByteArray).size ≤ 1048576 := by decide
theorem bX_small (n : Int) : (bX n).small := ⟨sz88, emp_small⟩
theorem bY_small : bY.small := ⟨sz89, emp_small⟩
theorem two_mem {P : B4 → Prop} {M : List B4} {n : Int} (h : ∀ x ∈ M, P x) (hX : P (bX n)) (hY : P bY) : ∀ x ∈ M ++ [bX n, bY], P x := fun x hx => by
  rcases List.mem_append.1 hx with hx | hx
  · exact h x hx
  · simp only [List.mem_cons, List.not_mem_nil, or_false] at hx
    rcases hx with rfl | rfl
    · exact hX
    · exact hY
/-- a term and some binds were drawn -/
def DrawnCo (w : World) (e : Ending) (w' : World) : Prop := ∃ (x : X11) (g c : Nat) (M : List B4), e = .returned (.tuple #[.agg #[.string x.Op, .int .i64 x.L.K, .string x.L.S, .int .i64 x.L.V.K, .int .i64 x.L.V.N, .string x.L.V.S, .int .i64 x.R.K, .string x.R.S, .int .i64 x.R.V.K, .int .i64 x.R.V.N, .string x.R.V.S], .slice (some ⟨g, 0, none⟩) M.length c]) ∧ x.small ∧ M.length ≤ 5 ∧ (∀ y ∈ M, y.small) ∧ RdBind w' (some ⟨g, 0, none⟩) M ∧ Below w.heap.size w w'

set_option maxRecDepth 100000 in
set_option maxHeartbeats 6400000 in
theorem drawCompute_any (a : Option Addr) (cap : Nat) (code : List UInt8) (w : World) (hr : Rd w a code) (hn : code.length ≤ 1048576) :
    Calls Try.prog 24 #[.slice a code.length cap] w (DrawnCo w) := by
  obtain ⟨i0, hi, hz0, hz1, hz2⟩ := info_parts Try.info76
  go_enter Try.func24, Try.ntmps24
  go_wp2_with fail
  have b1 := below_al w (.cells #[.string ⟨#[]⟩, .int .i64 0, .string ⟨#[]⟩, .int .i64 0, .int .i64 0, .string ⟨#[]⟩, .int .i64 0, .string ⟨#[]⟩, .int .i64 0, .int .i64 0, .string ⟨#[]⟩] 57)
  have r1 := boxk_new w #[.string ⟨#[]⟩, .int .i64 0, .string ⟨#[]⟩, .int .i64 0, .int .i64 0, .string ⟨#[]⟩, .int .i64 0, .string ⟨#[]⟩, .int .i64 0, .int .i64 0, .string ⟨#[]⟩] 57
  have z1 : (w.alloc (.cells #[.string ⟨#[]⟩, .int .i64 0, .string ⟨#[]⟩, .int .i64 0, .int .i64 0, .string ⟨#[]⟩, .int .i64 0, .string ⟨#[]⟩, .int .i64 0, .int .i64 0, .string ⟨#[]⟩] 57)).heap.size = w.heap.size + 1 := by simp
  generalize w.alloc (.cells #[.string ⟨#[]⟩, .int .i64 0, .string ⟨#[]⟩, .int .i64 0, .int .i64 0, .string ⟨#[]⟩, .int .i64 0, .string ⟨#[]⟩, .int .i64 0, .int .i64 0, .string ⟨#[]⟩] 57) = w0 at b1 r1 z1 ⊢
  refine (drawExprOk_any a cap code w0 (hr.below b1) hn).mono ?_
  rintro e w1 ⟨x, rfl, hx, hb1⟩
  have R1 := hide (box_step r1 hb1)
  have B1 : Below w.heap.size w w1 := b1.trans (hb1.mono b1.size)
  have s1 := hb1.size
  have X2 := hide (boxk_new w1 #[.string x.Op, .int .i64 x.L.K, .string x.L.S, .int .i64 x.L.V.K, .int .i64 x.L.V.N, .string x.L.V.S, .int .i64 x.R.K, .string x.R.S, .int .i64 x.R.V.K, .int .i64 x.R.V.N, .string x.R.V.S] 57)
  have R2 := hide (box_old R1.out (by omega) (.cells #[.string x.Op, .int .i64 x.L.K, .string x.L.S, .int .i64 x.L.V.K, .int .i64 x.L.V.N, .string x.L.V.S, .int .i64 x.R.K, .string x.R.S, .int .i64 x.R.V.K, .int .i64 x.R.V.N, .string x.R.V.S] 57))
  have B2 := B1.alloc B1.size (.cells #[.string x.Op, .int .i64 x.L.K, .string x.L.S, .int .i64 x.L.V.K, .int .i64 x.L.V.N, .string x.L.V.S, .int .i64 x.R.K, .string x.R.S, .int .i64 x.R.V.K, .int .i64 x.R.V.N, .string x.R.V.S] 57)
  have z2 : (w1.alloc (.cells #[.string x.Op, .int .i64 x.L.K, .string x.L.S, .int .i64 x.L.V.K, .int .i64 x.L.V.N, .string x.L.V.S, .int .i64 x.R.K, .string x.R.S, .int .i64 x.R.V.K, .int .i64 x.R.V.N, .string x.R.V.S] 57)).heap.size = w1.heap.size + 1 := by simp
  clear r1 b1 hb1 R1 B1
  go_wp2_with fail
  generalize w1.alloc (.cells #[.string x.Op, .int .i64 x.L.K, .string x.L.S, .int .i64 x.L.V.K, .int .i64 x.L.V.N, .string x.L.V.S, .int .i64 x.R.K, .string x.R.S, .int .i64 x.R.V.K, .int .i64 x.R.V.N, .string x.R.V.S] 57) = w2 at X2 R2 B2 z2 ⊢
  refine (l1New_any w2.heap.size a cap code w2 (hr.below B2).toB hn (Nat.le_refl _)).mono ?_
  rintro e w3 ⟨rfl, c3, g3⟩
  rw [z2] at c3 ⊢
  have q3 := c3.lt
  have X3 := hide (show w3.heap[w1.heap.size]? = _ from (g3.block _ (by omega) (by simp)).trans X2.out)
  have R3 := hide (show w3.heap[w.heap.size]? = _ from (g3.block _ (by omega) (by simp)).trans R2.out)
  have B3 : Below w.heap.size w w3 := B2.trans ((((Below.refl _ _).grown g3 (Nat.le_refl _) (fun k hk => by cases hk))).mono B2.size)
  clear X2 R2 B2 g3
  go_wp2_with fail
  refine (l6Binds_any (w1.heap.size + 1) (w1.heap.size + 1) w3 c3).mono ?_
  rintro e w4 ⟨g, c, M, rfl, hM, hsm, o4, c4, g4⟩
  have X4 := hide (box_grown X3.out g4 (by omega))
  have R4 := hide (box_grown R3.out g4 (by omega))
  have B4' : Below w.heap.size w w4 := B3.grown g4 B3.size (fun k hk => by cases hk; omega)
  have s4 := g4.size
  have hg := (o4.lt g rfl)
  have HSm := hide hsm
  clear X3 R3 B3 g4 c3 hsm
  go_wp2_with fail
  refine (l1Once_any (w1.heap.size + 1) (w1.heap.size + 1) 2 _ c4 (by omega) (by omega)).mono ?_
  rintro e w5 ⟨bb, rfl, c5, g5⟩
  have X5 := hide (box_grown X4.out g5 (by omega))
  have R5 := hide (box_grown R4.out g5 (by omega))
  have B5 : Below w.heap.size w w5 := B4'.grown g5 B4'.size (fun k hk => by cases hk; omega)
  have o5 := o4.kept g5 (.inr (by simp [Value.ownBlock]; omega))
  have s5 := g5.size
  clear X4 R4 B4' g5 c4 o4
  cases bb
  case' false =>
    obtain ⟨M', hM'⟩ : ∃ M', M' = M := ⟨_, rfl⟩
    rw [← hM'] at HSm hM
    obtain ⟨g', hg'⟩ : ∃ g', g' = g := ⟨_, rfl⟩
    obtain ⟨c', hc'⟩ : ∃ c', c' = c := ⟨_, rfl⟩
    have O6 : Hid (w5.ownsRow w3.heap.size 76 4 (.slice (some ⟨g', 0, none⟩) M'.length c') M'.length (rowOf B4.cs M')) := by unfold Hid; rw [hM', hg', hc']; exact o5
    have hM5 : M'.length ≤ 5 := by omega
    obtain ⟨w6, hw6⟩ : ∃ w6, w6 = w5 := ⟨_, rfl⟩
    rw [← hw6] at X5 R5 B5 O6
    have hg6 : w3.heap.size ≤ g' := by rw [hg']; exact hg.1
    go_upto_region 6 with fail
    rw [← hw6, ← hg', ← hc', ← hM']
    clear hM' hg' hc' hw6 o5 c5
  case' true =>
    go_wp2_with fail
    refine (l1Int_any (w1.heap.size + 1) (w1.heap.size + 1) w5.heap.size [1, 1000000000] 2 _ (c5.keep (World.grownBy_alloc w5 _ none) (by simp) (by simp)) (by decide) (by decide) (by have := c5.lt; omega) (cells_lit w5 3 _)).mono ?_
    rintro e w7 ⟨n, rfl, hx7, c7, g7⟩
    have G7 : w5.grownBy w7 (some (w1.heap.size + 1)) := grown_trans (grown_alloc w5 _ _) g7
    have X7 := hide (box_grown X5.out G7 (by omega))
    have R7 := hide (box_grown R5.out G7 (by omega))
    have B7 : Below w.heap.size w w7 := B5.grown G7 B5.size (fun k hk => by cases hk; omega)
    have o7 := o5.kept G7 (.inr (by simp [Value.ownBlock]; omega))
    have s7 := G7.size
    have X8 := hide (box_alloc X7.out (.cells #[.string ⟨#[88]⟩, .int .i64 1, .int .i64 n, .string ⟨#[]⟩, .string ⟨#[89]⟩, .int .i64 1, .int .i64 2, .string ⟨#[]⟩] 76))
    have R8 := hide (box_alloc R7.out (.cells #[.string ⟨#[88]⟩, .int .i64 1, .int .i64 n, .string ⟨#[]⟩, .string ⟨#[89]⟩, .int .i64 1, .int .i64 2, .string ⟨#[]⟩] 76))
    have B8 := hide (B7.alloc B7.size (.cells #[.string ⟨#[88]⟩, .int .i64 1, .int .i64 n, .string ⟨#[]⟩, .string ⟨#[89]⟩, .int .i64 1, .int .i64 2, .string ⟨#[]⟩] 76))
    have HO8 := hide (o7.alloc (.cells #[.string ⟨#[88]⟩, .int .i64 1, .int .i64 n, .string ⟨#[]⟩, .string ⟨#[89]⟩, .int .i64 1, .int .i64 2, .string ⟨#[]⟩] 76))
    have HSrc := hide (src_row w7 (twoC n) 76)
    have hz8 : w3.heap.size ≤ (w7.alloc (.cells #[.string ⟨#[88]⟩, .int .i64 1, .int .i64 n, .string ⟨#[]⟩, .string ⟨#[89]⟩, .int .i64 1, .int .i64 2, .string ⟨#[]⟩] 76)).heap.size := by simp; omega
    have HRow := hide (twoC_row M n)
    clear X5 R5 B5 o5 c5 G7 g7 hx7 X7 R7 B7 o7 c7
    go_wp2_with (at_builtin; refine wpList_append_lies _ rfl (.tmp 15) (.tmp 23) 38 rfl w3.heap.size 76 i0 (.agg #[.string ⟨#[]⟩, .int .i64 0, .int .i64 0, .string ⟨#[]⟩]) 4 48 Try.underlying38 hi hz0 hz1 hz2 rfl (by omega) (.slice (some ⟨g, 0, none⟩) M.length c) M.length (rowOf B4.cs M) rfl HO8.out ⟨w7.heap.size, 0, none⟩ 2 2 (twoC n).toList ?hx rfl HSrc.out (twoC_one n) (by omega) (by unfold maxLen; omega) (by omega) hz8 _ rfl ?_)
    case' hx => simp [Act.eval]
    intro g' c' w6 ho6 hg6' hat6 hlt6
    rw [HRow.out] at ho6
    obtain ⟨M', hM'⟩ : ∃ M', M' = M ++ [bX n, bY] := ⟨_, rfl⟩
    have hl' : M'.length = M.length + 2 := by rw [hM']; simp
    have O6 : Hid (w6.ownsRow w3.heap.size 76 4 (.slice (some ⟨g', 0, none⟩) M'.length c') M'.length (rowOf B4.cs M')) := by unfold Hid; rw [hl', hM']; exact ho6
    have HSm' : Hid (∀ y ∈ M', y.small) := by unfold Hid; rw [hM']; exact two_mem HSm.out (bX_small n) bY_small
    have hgb := HO8.out.lt g rfl
    have X5 := hide (box_grown X8.out hg6' (by simp; omega))
    have R5 := hide (box_grown R8.out hg6' (by simp; omega))
    have B5 : Below w.heap.size w w6 := B8.out.grown hg6' B8.out.size (fun k hk => by have := (HO8.out.lt k hk).1; omega)
    have hM5 : M'.length ≤ 5 := by omega
    have hg6 : w3.heap.size ≤ g' := (O6.out.lt g' rfl).1
    go_upto_region 6 with fail
    rw [← hl']
    clear HSm ho6 hg6' hat6 hlt6 X8 R8 B8 HO8 HSrc HRow hl' hM' hgb
    have HSm := HSm'
    clear HSm'
  all_goals
    have l6 := (Array.getElem?_eq_some_iff.1 R5.out).1
    have a0 := boxk_cell X5.out 0 _ rfl
    have a1 := boxk_cell X5.out 1 _ rfl
    have a2 := boxk_cell X5.out 2 _ rfl
    have a3 := boxk_cell X5.out 3 _ rfl
    have a4 := boxk_cell X5.out 4 _ rfl
    have a5 := boxk_cell X5.out 5 _ rfl
    have a6 := boxk_cell X5.out 6 _ rfl
    have a7 := boxk_cell X5.out 7 _ rfl
    have a8 := boxk_cell X5.out 8 _ rfl
    have a9 := boxk_cell X5.out 9 _ rfl
    have a10 := boxk_cell X5.out 10 _ rfl
    have r0 := boxk_cell R5.out 0 _ rfl
    have f0 := boxk_frozen R5.out 0
    have r1 := boxk_cell R5.out 1 _ rfl
    have f1 := boxk_frozen R5.out 1
    have r2 := boxk_cell R5.out 2 _ rfl
    have f2 := boxk_frozen R5.out 2
    have r3 := boxk_cell R5.out 3 _ rfl
    have f3 := boxk_frozen R5.out 3
    have r4 := boxk_cell R5.out 4 _ rfl
    have f4 := boxk_frozen R5.out 4
    have r5 := boxk_cell R5.out 5 _ rfl
    have f5 := boxk_frozen R5.out 5
    have r6 := boxk_cell R5.out 6 _ rfl
    have f6 := boxk_frozen R5.out 6
    have r7 := boxk_cell R5.out 7 _ rfl
    have f7 := boxk_frozen R5.out 7
    have r8 := boxk_cell R5.out 8 _ rfl
    have f8 := boxk_frozen R5.out 8
    have r9 := boxk_cell R5.out 9 _ rfl
    have f9 := boxk_frozen R5.out 9
    have r10 := boxk_cell R5.out 10 _ rfl
    have f10 := boxk_frozen R5.out 10
    go_wp2
    refine box11_post R5.out (fun w8 h8 gr => ?_)
    clear a0 r0 f0 a1 r1 f1 a2 r2 f2 a3 r3 f3 a4 r4 f4 a5 r5 f5 a6 r6 f6 a7 r7 f7 a8 r8 f8 a9 r9 f9 a10 r10 f10
    have b0 := boxk_cell h8 0 _ rfl
    have b1 := boxk_cell h8 1 _ rfl
    have b2 := boxk_cell h8 2 _ rfl
    have b3 := boxk_cell h8 3 _ rfl
    have b4 := boxk_cell h8 4 _ rfl
    have b5 := boxk_cell h8 5 _ rfl
    have b6 := boxk_cell h8 6 _ rfl
    have b7 := boxk_cell h8 7 _ rfl
    have b8 := boxk_cell h8 8 _ rfl
    have b9 := boxk_cell h8 9 _ rfl
    have b10 := boxk_cell h8 10 _ rfl
    have o8 := O6.out.kept gr (.inr (by simp [Value.ownBlock]; omega))
    have rd8 : RdBind w8 (some ⟨g', 0, none⟩) M' := rdOwnBind (OwnK.of B4.len (by decide) o8)
    exact bodyPost_ret (v := .tuple #[.agg #[.string x.Op, .int .i64 x.L.K, .string x.L.S, .int .i64 x.L.V.K, .int .i64 x.L.V.N, .string x.L.V.S, .int .i64 x.R.K, .string x.R.S, .int .i64 x.R.V.K, .int .i64 x.R.V.N, .string x.R.V.S], .slice (some ⟨g', 0, none⟩) M'.length c']) (by simp [results, Try.results24, go_sem, b0, b1, b2, b3, b4, b5, b6, b7, b8, b9, b10]) rfl ⟨x, g', c', M', rfl, hx, hM5, HSm.out, rd8, below_set B5 gr (by omega)⟩

/-- some terms and some binds of right values were drawn -/
def DrawnCA (w : World) (e : Ending) (w' : World) : Prop := ∃ (g c : Nat) (L : List X11) (g2 c2 : Nat) (M : List B4), e = .returned (.tuple #[.slice (some ⟨g, 0, none⟩) L.length c, .slice (some ⟨g2, 0, none⟩) M.length c2]) ∧ L.length ≤ 3 ∧ (∀ y ∈ L, y.small ∧ (y.L.K = 2 → y.L.V.ok = true)) ∧ M.length ≤ 5 ∧ (∀ y ∈ M, y.small ∧ y.V.ok = true) ∧ RdExpr w' (some ⟨g, 0, none⟩) L ∧ RdBind w' (some ⟨g2, 0, none⟩) M ∧ Below w.heap.size w w'
theorem one_x (x : X11) : ∀ u ∈ x.cs, u.oneCell' = true := by
  intro u hu
  simp only [X11.cs, List.mem_cons, List.not_mem_nil, or_false] at hu
  rcases hu with rfl | rfl | rfl | rfl | rfl | rfl | rfl | rfl | rfl | rfl | rfl <;> rfl

set_option maxRecDepth 100000 in
set_option maxHeartbeats 6400000 in
theorem drawComputeAll_any (a : Option Addr) (cap : Nat) (code : List UInt8) (w : World) (hr : Rd w a code) (hn : code.length ≤ 1048576) :
    Calls Try.prog 20 #[.slice a code.length cap] w (DrawnCA w) := by
  obtain ⟨i0, hi, hz0, hz1, hz2⟩ := info_parts Try.info57
  obtain ⟨j0, hj, jz0, jz1, jz2⟩ := info_parts Try.info76
  go_enter Try.func20, Try.ntmps20
  go_wp2_with fail
  refine (l1New_any w.heap.size a cap code w hr.toB hn (Nat.le_refl _)).mono ?_
  rintro e w0 ⟨rfl, hc, g0⟩
  have B0 : Below w.heap.size w w0 := (Below.refl _ _).grown g0 (Nat.le_refl _) (fun k hk => by cases hk)
  have hq := hc.lt
  clear g0
  go_wp2_with fail
  have c0 : Cur w.heap.size (w0.alloc (.cells #[] 57)) w.heap.size := hc.keep (World.grownBy_alloc w0 _ none) (by simp) (by simp)
  have ho0 := World.ownsRow_lit (base := w0.heap.size) (e := 57) (size := 11) w0 #[] 0 (Nat.le_refl _) (Nat.zero_le _) rfl
  have G0 := grown_alloc w0 (.cells #[] 57) w.heap.size
  have hs0 : w0.heap.size < (w0.alloc (.cells #[] 57)).heap.size := by simp
  refine (l1Below_any w.heap.size w.heap.size 3 _ c0 (by omega) (by omega)).mono ?_
  rintro e w1 ⟨x, rfl, x0, x1, c1, g1⟩
  have ho1 : w1.ownsRow w0.heap.size 57 11 (.slice (some ⟨w0.heap.size, 0, none⟩) 0 0) 0 [] := ho0.kept g1 (.inr (by simp [Value.ownBlock]; omega))
  have G1 : w0.grownBy w1 (some w.heap.size) := grown_trans G0 g1
  have hs1 := Nat.lt_of_lt_of_le hs0 g1.size
  clear g1 c0 ho0 G0 hs0 hc
  obtain ⟨n, rfl⟩ := Int.eq_ofNat_of_zero_le x0
  have hn3 : n ≤ 3 := by omega
  go_wp2
  go_loopw [5, 6] (fun v i wr => ∃ (k g c : Nat) (L : List X11), k + L.length = n ∧ i = .int .i64 k ∧ v = .slice (some ⟨g, 0, none⟩) L.length c ∧ wr.ownsRow w0.heap.size 57 11 (.slice (some ⟨g, 0, none⟩) L.length c) L.length (rowOf X11.cs L) ∧ (∀ x ∈ L, x.small ∧ (x.L.K = 2 → x.L.V.ok = true)) ∧ Cur w.heap.size wr w.heap.size ∧ w0.grownBy wr (some w.heap.size)) (fun _ i _ => (intOf i).toNat)
  case atStart => exact ⟨n, w0.heap.size, 0, [], by simp, rfl, rfl, ho1, (fun x hx => by cases hx), c1, G1⟩
  case round =>
    obtain ⟨k, g, c, L, hkn, rfl, rfl, hown, hsm, cr, gr⟩ := hrel
    have HSm := hide hsm
    have HO := hide hown
    have HG := hide gr
    have hzr := gr.size
    have hqr := cr.lt
    clear ho1 c1 G1 hsm hown gr
    by_cases hlt : 0 < k
    · have hk1 : (0 : Int) < (k : Int) := by omega
      go_wp2_with fail
      refine (l8Expr_any w.heap.size w.heap.size _ cr).mono ?_
      rintro e w3 ⟨u, rfl, hu, huo, c3, g3⟩
      have HO3 := hide ((HO.out.kept g3 (.inr (by have := (HO.out.lt g rfl).1; simp [Value.ownBlock]; omega))).alloc (.cells #[.string u.Op, .int .i64 u.L.K, .string u.L.S, .int .i64 u.L.V.K, .int .i64 u.L.V.N, .string u.L.V.S, .int .i64 u.R.K, .string u.R.S, .int .i64 u.R.V.K, .int .i64 u.R.V.N, .string u.R.V.S] 57))
      have HG3 := hide (grown_trans (grown_trans HG.out g3) (grown_alloc w3 (.cells #[.string u.Op, .int .i64 u.L.K, .string u.L.S, .int .i64 u.L.V.K, .int .i64 u.L.V.N, .string u.L.V.S, .int .i64 u.R.K, .string u.R.S, .int .i64 u.R.V.K, .int .i64 u.R.V.N, .string u.R.V.S] 57) w.heap.size))
      have c4 : Cur w.heap.size (w3.alloc (.cells #[.string u.Op, .int .i64 u.L.K, .string u.L.S, .int .i64 u.L.V.K, .int .i64 u.L.V.N, .string u.L.V.S, .int .i64 u.R.K, .string u.R.S, .int .i64 u.R.V.K, .int .i64 u.R.V.N, .string u.R.V.S] 57)) w.heap.size := c3.keep (World.grownBy_alloc w3 _ none) (by simp) (by simp)
      have HSrc := hide (src_row w3 #[.string u.Op, .int .i64 u.L.K, .string u.L.S, .int .i64 u.L.V.K, .int .i64 u.L.V.N, .string u.L.V.S, .int .i64 u.R.K, .string u.R.S, .int .i64 u.R.V.K, .int .i64 u.R.V.N, .string u.R.V.S] 57)
      have HU := hide (show u.small ∧ (u.L.K = 2 → u.L.V.ok = true) from ⟨hu, huo⟩)
      have HApp : Hid (rowOf X11.cs L ++ X11.cs u = rowOf X11.cs (L ++ [u])) := by unfold Hid; rw [rowOf_append]; simp [rowOf]
      have hz4 := HG3.out.size
      clear g3 HO HG c3 hu huo cr
      go_wp2_with (at_builtin; refine wpList_append_lies _ rfl (.tmp 16) (.tmp 19) 50 rfl w0.heap.size 57 i0 (.agg #[.string ⟨#[]⟩, .int .i64 0, .string ⟨#[]⟩, .int .i64 0, .int .i64 0, .string ⟨#[]⟩, .int .i64 0, .string ⟨#[]⟩, .int .i64 0, .int .i64 0, .string ⟨#[]⟩]) 11 128 Try.underlying50 hi hz0 hz1 hz2 rfl (by omega) (.slice (some ⟨g, 0, none⟩) L.length c) L.length (rowOf X11.cs L) rfl HO3.out ⟨w3.heap.size, 0, none⟩ 1 1 (X11.cs u) ?hx rfl HSrc.out (one_x _) (by omega) (by unfold maxLen; omega) (by omega) hz4 _ rfl ?_)
      case hx => simp [Act.eval]
      intro g5 c5 w5 ho5 hg5 hat5 hlt5
      rw [HApp.out] at ho5
      have HO5 := hide ho5
      have hgb := (HO3.out.lt g rfl).1
      have c6 : Cur w.heap.size w5 w.heap.size := c4.keep hg5 (by simp [Value.ownBlock]; omega) (fun j hj => by have := (HO3.out.lt j hj).1; omega)
      have HG5 := hide (grown_more HG3.out hg5 (fun j hj => (HO3.out.lt j hj).1))
      clear ho5 hg5 hat5 hlt5 HO3 HG3 HSrc c4
      go_wp2
      go_roundw
      case rel => exact ⟨k - 1, g5, c5, L ++ [u], by simp; omega, by go_num, by simp, by rw [show (L ++ [u]).length = L.length + 1 by simp]; exact HO5.out, fun x hx => by
          rcases List.mem_append.1 hx with h | h
          · exact HSm.out x h
          · simp only [List.mem_cons, List.not_mem_nil, or_false] at h
            rw [h]; exact HU.out, c6, HG5.out⟩
      case measure => simp [intOf]; omega
    · obtain rfl : k = 0 := by omega
      have hL3 : L.length ≤ 3 := by omega
      go_wp2_with fail
      refine (l6Binds_ok w.heap.size w.heap.size _ cr).mono ?_
      rintro e w3 ⟨g2, cc, M, rfl, hM, hsmM, o3, c3, g3⟩
      have hg := (HO.out.lt g rfl)
      have hg2 := (o3.lt g2 rfl)
      have HSmM := hide hsmM
      have hs3 := g3.size
      have HO4 := hide ((HO.out.kept g3 (.inr (by simp [Value.ownBlock]; omega))).alloc (.cells (twoC 3) 76))
      have HB4 := hide (((B0.grown HG.out B0.size (fun j hj => by cases hj; exact Nat.le_refl _)).grown g3 (Nat.le_trans B0.size hzr) (fun j hj => by cases hj; exact Nat.le_refl _)).alloc (by have := B0.size; omega) (.cells (twoC 3) 76))
      have HM4 := hide (o3.alloc (.cells (twoC 3) 76))
      have HSrc := hide (src_row w3 (twoC 3) 76)
      have hz4 : wr.heap.size ≤ (w3.alloc (.cells (twoC 3) 76)).heap.size := by simp; omega
      have HRow := hide (twoC_row M 3)
      clear hsmM o3 c3 g3 HO HG cr
      go_wp2_with (at_builtin; refine wpList_append_lies _ rfl (.tmp 23) (.tmp 28) 38 rfl wr.heap.size 76 j0 (.agg #[.string ⟨#[]⟩, .int .i64 0, .int .i64 0, .string ⟨#[]⟩]) 4 48 Try.underlying38 hj jz0 jz1 jz2 rfl (by omega) (.slice (some ⟨g2, 0, none⟩) M.length cc) M.length (rowOf B4.cs M) rfl HM4.out ⟨w3.heap.size, 0, none⟩ 2 2 (twoC 3).toList ?hx rfl HSrc.out (twoC_one 3) (by omega) (by unfold maxLen; omega) (by omega) hz4 _ rfl ?_)
      case hx => simp [Act.eval]
      intro g5 c5 w5 ho5 hg5 hat5 hlt5
      rw [HRow.out] at ho5
      have oL := HO4.out.kept hg5 (.inr (by simp [Value.ownBlock]; omega))
      have rL : RdExpr w5 (some ⟨g, 0, none⟩) L := rdOwnExpr (OwnK.of X11.len (by decide) oL)
      have hl' : (M ++ [bX 3, bY]).length = M.length + 2 := by simp
      have rM : RdBind w5 (some ⟨g5, 0, none⟩) (M ++ [bX 3, bY]) := rdOwnBind (OwnK.of B4.len (by decide) ho5)
      have BE : Below w.heap.size w w5 := HB4.out.grown hg5 HB4.out.size (fun j hj => by have := (HM4.out.lt j hj).1; have := B0.size; omega)
      have HD : Hid (DrawnCA w (.returned (.tuple #[.slice (some ⟨g, 0, none⟩) L.length c, .slice (some ⟨g5, 0, none⟩) (M.length + 2) c5])) w5) := ⟨g, c, L, g5, c5, M ++ [bX 3, bY], by rw [hl'], hL3, HSm.out, by rw [hl']; omega, two_mem HSmM.out ⟨bX_small 3, ok_n (show (-1000000000 : Int) ≤ 3 ∧ (3 : Int) ≤ 1000000000 by decide)⟩ ⟨bY_small, ok_n (show (-1000000000 : Int) ≤ 2 ∧ (2 : Int) ≤ 1000000000 by decide)⟩, rL, rM, BE⟩
      clear HSm HSmM HO4 HB4 HM4 HSrc HRow ho5 hg5 hat5 hlt5 oL rL rM BE
      go_wp2
      go_ret2
      exact HD.out

end Go.Proofs.Ytbellpalomiokab
