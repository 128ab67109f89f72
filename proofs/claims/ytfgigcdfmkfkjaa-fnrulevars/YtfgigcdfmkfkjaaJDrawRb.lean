/-
  A rule that is bent: the model's l9Bend.
-/
import Derived.Test.YtfgigcdfmkfkjaaJDrawRz
import Derived.Test.YtfgigcdfmkfkjaaJDrawQ
import Derived.Test.YtfgigcdfmkfkjaaJDrawCa
import Derived.Test.YtfgigcdfmkfkjaaJDrawAes
namespace Go.Proofs.Ytfgigcdfmkfkjaa
open Go.RowKit
set_option linter.unusedVariables false
set_option maxRecDepth 100000

/-- a rule that is bent, in its own block T, its result's behind it; all else is on its way as it was -/
structure Bn (w0 : World) (B q b F : Nat) (cs : Array Value) (T : Nat) (xs : Array Value) (vP : Value) (P : List PE) (vC : Value) (C : List C11) (vA : Value) (A : List QE) (W : World) : Prop where
  d : RlW w0 B q b F cs vP P vC C vA A W
  x : W.heap[T]? = some (.cells xs 49 (0, 0))
  r : W.heap[T + 1]? = some (.cells #[.string ⟨#[]⟩, .int .i64 0, .slice none 0 0, .slice none 0 0, .slice none 0 0] 49 (0, 0))
  hT : b ≤ T
  TF : F < T
section
variable {w0 W W' : World} {B q b F T : Nat} {cs xs : Array Value} {vP vC vA : Value} {P : List PE} {C : List C11} {A : List QE}
theorem Bn.qT (h : Bn w0 B q b F cs T xs vP P vC C vA A W) : q < T := by have := h.d.far; have := h.hT; omega
theorem Bn.draws (h : Bn w0 B q b F cs T xs vP P vC C vA A W) (c : Cur B W' q) (g : W.grownBy W' (some q)) : Bn w0 B q b F cs T xs vP P vC C vA A W' :=
  ⟨h.d.draws c g, box_gr h.x g (by have := h.qT; omega), box_gr h.r g (by have := h.qT; omega), h.hT, h.TF⟩
theorem Bn.later (h : Bn w0 B q b F cs T xs vP P vC C vA A W) (hb : Below W.heap.size W W') : Bn w0 B q b F cs T xs vP P vC C vA A W' := ⟨h.d.later hb, box_step h.x hb, box_step h.r hb, h.hT, h.TF⟩
theorem Bn.drew (h : Bn w0 B q b F cs T xs vP P vC C vA A W) : Bn w0 B q b F cs T xs vP P vC C vA A W.drew := ⟨h.d.drew, h.x, h.r, h.hT, h.TF⟩
theorem Bn.alloc (h : Bn w0 B q b F cs T xs vP P vC C vA A W) (o : Obj) : Bn w0 B q b F cs T xs vP P vC C vA A (W.alloc o) := ⟨h.d.alloc o, box_alloc h.x o, box_alloc h.r o, h.hT, h.TF⟩
theorem Bn.setX (h : Bn w0 B q b F cs T xs vP P vC C vA A W) (i : Nat) (v : Value) : Bn w0 B q b F cs T (xs.setIfInBounds i v) vP P vC C vA A (W.setCell ⟨T, i, none⟩ v) := by
  obtain ⟨hb, gr⟩ := boxk_set h.x i v
  exact ⟨h.d.ruleBox h.x h.hT (by have := h.TF; omega) gr, hb, box_gr h.r gr (by omega), h.hT, h.TF⟩
theorem Bn.cellX (h : Bn w0 B q b F cs T xs vP P vC C vA A W) (i : Nat) (v : Value) (hv : xs[i]? = some v) : W.cell? ⟨T, i, none⟩ = some v ∧ W.frozen? ⟨T, i, none⟩ = false := ⟨boxk_cell h.x i v hv, boxk_frozen h.x i⟩
theorem Bn.newP (h : Bn w0 B q b F cs T xs vP P vC C vA A W) (hb : Below W.heap.size W W') {v : Value} (ho : W'.ownsRow b 79 3 v P.length (rowOf PE.cs P)) : Bn w0 B q b F cs T xs v P vC C vA A W' := ⟨h.d.newP hb ho, box_step h.x hb, box_step h.r hb, h.hT, h.TF⟩
theorem Bn.newC (h : Bn w0 B q b F cs T xs vP P vC C vA A W) (hb : Below W.heap.size W W') {v : Value} (ho : W'.ownsRow b 162 11 v C.length (rowOf C11.cs C)) : Bn w0 B q b F cs T xs vP P v C vA A W' := ⟨h.d.newC hb ho, box_step h.x hb, box_step h.r hb, h.hT, h.TF⟩
theorem Bn.newA (h : Bn w0 B q b F cs T xs vP P vC C vA A W) (hb : Below W.heap.size W W') {v : Value} (ho : W'.ownsRow b 166 5 v A.length (rowOf QE.cs A)) : Bn w0 B q b F cs T xs vP P vC C v A W' := ⟨h.d.newA hb ho, box_step h.x hb, box_step h.r hb, h.hT, h.TF⟩
theorem Bn.addP (h : Bn w0 B q b F cs T xs vP P vC C vA A W) {g cap : Nat} {u : PE} (hu : u.tiny) (hi : W.ownsRow b 157 5 (.slice u.a u.L.length u.cap) u.L.length (rowOf A5.cs u.L))
    (ho : W'.ownsRow b 79 3 (.slice (some ⟨g, 0, none⟩) (P.length + 1) cap) (P.length + 1) (rowOf PE.cs P ++ u.cs)) (hg : W.grownBy W' vP.ownBlock) :
    Bn w0 B q b F cs T xs (.slice (some ⟨g, 0, none⟩) (P.length + 1) cap) (P ++ [u]) vC C vA A W' :=
  ⟨h.d.addP hu hi ho hg, by rw [hg.block T (Array.getElem?_eq_some_iff.1 h.x).1 (fun e => row_apart h.d.rP h.x (by decide) e.symm)]; exact h.x, by rw [hg.block _ (Array.getElem?_eq_some_iff.1 h.r).1 (fun e => row_apart h.d.rP h.r (by decide) e.symm)]; exact h.r, h.hT, h.TF⟩
theorem Bn.addC (h : Bn w0 B q b F cs T xs vP P vC C vA A W) {g cap : Nat} {u : C11} (hu : u.small)
    (ho : W'.ownsRow b 162 11 (.slice (some ⟨g, 0, none⟩) (C.length + 1) cap) (C.length + 1) (rowOf C11.cs C ++ u.cs)) (hg : W.grownBy W' vC.ownBlock) :
    Bn w0 B q b F cs T xs vP P (.slice (some ⟨g, 0, none⟩) (C.length + 1) cap) (C ++ [u]) vA A W' :=
  ⟨h.d.addC hu ho hg, by rw [hg.block T (Array.getElem?_eq_some_iff.1 h.x).1 (fun e => row_apart h.d.rC h.x (by decide) e.symm)]; exact h.x, by rw [hg.block _ (Array.getElem?_eq_some_iff.1 h.r).1 (fun e => row_apart h.d.rC h.r (by decide) e.symm)]; exact h.r, h.hT, h.TF⟩
theorem Bn.addA (h : Bn w0 B q b F cs T xs vP P vC C vA A W) {g cap : Nat} {u : QE} (hu : u.tiny) (hi : W.ownsRow b 206 11 (.slice u.a u.L.length u.cap) u.L.length (rowOf X11.cs u.L))
    (ho : W'.ownsRow b 166 5 (.slice (some ⟨g, 0, none⟩) (A.length + 1) cap) (A.length + 1) (rowOf QE.cs A ++ u.cs)) (hg : W.grownBy W' vA.ownBlock) :
    Bn w0 B q b F cs T xs vP P vC C (.slice (some ⟨g, 0, none⟩) (A.length + 1) cap) (A ++ [u]) W' :=
  ⟨h.d.addA hu hi ho hg, by rw [hg.block T (Array.getElem?_eq_some_iff.1 h.x).1 (fun e => row_apart h.d.rA h.x (by decide) e.symm)]; exact h.x, by rw [hg.block _ (Array.getElem?_eq_some_iff.1 h.r).1 (fun e => row_apart h.d.rA h.r (by decide) e.symm)]; exact h.r, h.hT, h.TF⟩
/-- the result's block is written -/
theorem Bn.done (h : Bn w0 B q b F cs T xs vP P vC C vA A W) (gr : W.grownBy W' (some (T + 1))) : RlW w0 B q b F cs vP P vC C vA A W' := h.d.ruleBox h.r (by have := h.hT; omega) (by have := h.TF; omega) gr
end
/-- a bent rule is answered -/
def BentR (w0 : World) (B q b F : Nat) (cs : Array Value) (e : Ending) (w' : World) : Prop := ∃ (nm : ByteArray) (sal : Int) (vP : Value) (P : List PE) (vC : Value) (C : List C11) (vA : Value) (A : List QE), e = .returned (.agg #[.string nm, .int .i64 sal, vP, vC, vA]) ∧ nm.size ≤ 100 ∧ 1 ≤ P.length ∧ P.length ≤ 5 ∧ C.length ≤ 2 ∧ A.length ≤ 4 ∧ RlW w0 B q b F cs vP P vC C vA A w'

set_option maxHeartbeats 12800000 in
theorem l9Bend_any (w0 : World) (B q b F : Nat) (cs : Array Value) (nm : ByteArray) (sal : Int) (vP : Value) (P : List PE) (vC : Value) (C : List C11) (vA : Value) (A : List QE) (w : World) (D : RlW w0 B q b F cs vP P vC C vA A w) (hnm : nm.size ≤ 100) (hP1 : 1 ≤ P.length) (hP4 : P.length ≤ 4) (hC1 : C.length ≤ 1) (hA1 : 1 ≤ A.length) (hA3 : A.length ≤ 3) :
    Calls Try.prog 119 #[.pointer (some ⟨q, 0, none⟩), .agg #[.string nm, .int .i64 sal, vP, vC, vA]] w (BentR w0 B q b F cs) := by
  obtain ⟨iP, hiP, hP0, hPa, hPb⟩ := info_parts infoPat
  obtain ⟨iA, hiA', hA0, hAa, hAb⟩ := info_parts infoActR
  obtain ⟨iC, hiC, hC0, hCa, hCb⟩ := info_parts Try.info162
  obtain ⟨aP, cP, rfl⟩ := own_slice D.rP
  obtain ⟨aC, cC, rfl⟩ := own_slice D.rC
  obtain ⟨aA, cA, rfl⟩ := own_slice D.rA
  obtain ⟨hX, hR, b2⟩ := boxes2 w #[.string nm, .int .i64 sal, .slice aP P.length cP, .slice aC C.length cC, .slice aA A.length cA] #[.string ⟨#[]⟩, .int .i64 0, .slice none 0 0, .slice none 0 0, .slice none 0 0] 49 49
  have E0 : Bn w0 B q b F cs w.heap.size #[.string nm, .int .i64 sal, .slice aP P.length cP, .slice aC C.length cC, .slice aA A.length cA] (.slice aP P.length cP) P (.slice aC C.length cC) C (.slice aA A.length cA) A ((w.alloc (.cells #[.string nm, .int .i64 sal, .slice aP P.length cP, .slice aC C.length cC, .slice aA A.length cA] 49)).alloc (.cells #[.string ⟨#[]⟩, .int .i64 0, .slice none 0 0, .slice none 0 0, .slice none 0 0] 49)) := ⟨D.later b2, hX, hR, D.bsz, D.lt⟩
  clear hX hR b2 D
  have x2 := (E0.cellX 2 _ rfl).1
  have xf2 := (E0.cellX 2 _ rfl).2
  go_enter Try.func119, Try.ntmps119
  go_upto_region 1 with fail
  generalize (w.alloc (.cells #[.string nm, .int .i64 sal, .slice aP P.length cP, .slice aC C.length cC, .slice aA A.length cA] 49)).alloc (.cells #[.string ⟨#[]⟩, .int .i64 0, .slice none 0 0, .slice none 0 0, .slice none 0 0] 49) = w1 at E0 x2 xf2 ⊢
  obtain ⟨T, hTq⟩ : ∃ T, Hid (w.heap.size = T) := ⟨_, rfl⟩
  rw [hTq.out] at E0 x2 xf2 ⊢
  clear hTq
  have HE0 := hide E0
  have HL0 : Hid ((w1.alloc (.cells #[] 79)).ownsRow b 79 3 (.slice (some ⟨w1.heap.size, 0, none⟩) 0 0) 0 []) := ownsRow_baseR (World.ownsRow_lit _ #[] 0 (by simp) (Nat.zero_le _) rfl) E0.d.bsz
  have hRP : RdK PE.cs 3 (w1.alloc (.cells #[] 79)) aP P := (rdK_of_row PE.len (by decide) E0.d.rP).below (below_al _ _)
  have HRP := hide hRP
  have y2 := ((E0.alloc (.cells #[] 79)).cellX 2 _ rfl).1
  have yf2 := ((E0.alloc (.cells #[] 79)).cellX 2 _ rfl).2
  clear E0 hRP
  go_wp2_with (at_builtin; refine wpList_copyP rfl (.tmp 5) (.tmp 7) rfl b w1.heap.size rfl HL0.out aP cP P.length P rfl rfl HRP.out (by omega) (by have := HE0.out.d.bsz; simp; omega) ?_; intro gP cP' w2 hoP hgP; have hbP : Below w1.heap.size w1 w2 := (below_al w1 _).grown hgP (by simp) (fun k hk => by cases hk; exact Nat.le_refl _); have E2 := HE0.out.newP hbP hoP; have p2 := (E2.cellX 2 _ rfl).1; have pf2 := (E2.cellX 2 _ rfl).2)
  have HE3 : Hid (Bn w0 B q b F cs T #[.string nm, .int .i64 sal, .slice (some ⟨gP, 0, none⟩) P.length cP', .slice aC C.length cC, .slice aA A.length cA] (.slice (some ⟨gP, 0, none⟩) P.length cP') P (.slice aC C.length cC) C (.slice aA A.length cA) A (w2.setCell ⟨T, 2, none⟩ (.slice (some ⟨gP, 0, none⟩) P.length cP'))) := E2.setX 2 _
  clear HE0 HL0 HRP y2 yf2 hoP hgP hbP E2 p2 pf2 x2 xf2
  generalize w2.setCell ⟨T, 2, none⟩ (.slice (some ⟨gP, 0, none⟩) P.length cP') = w3 at HE3 ⊢
  refine (l1Below_any B q 10 _ HE3.out.d.cur (by omega) (by omega)).mono ?_
  rintro e w4 ⟨x, rfl, x0, x1, c4, g4⟩
  have HE := hide (HE3.out.draws c4 g4)
  clear c4 g4 HE3
  have hb1 : Hid (nm.size ≤ 100 ∧ 1 ≤ P.length ∧ P.length ≤ 5 ∧ C.length ≤ 2 ∧ A.length ≤ 4) := ⟨hnm, hP1, by omega, by omega, by omega⟩
  rcases (show x = 0 ∨ x = 1 ∨ x = 2 ∨ x = 3 ∨ x = 4 ∨ x = 5 ∨ x = 6 ∨ x = 7 ∨ x = 8 ∨ x = 9 by omega) with rfl | rfl | rfl | rfl | rfl | rfl | rfl | rfl | rfl | rfl
  · go_wp2_with fail
    have hTw : T < w4.heap.size := (Array.getElem?_eq_some_iff.1 HE.out.x).1
    have hqT := HE.out.qT
    refine (l1Str_any B q w4.heap.size [⟨#[]⟩, ⟨#[65]⟩, ⟨#[120]⟩] 3 _ (HE.out.alloc _).d.cur (by decide) (by decide) (by omega) (cells_strs w4 9 _)).mono ?_
    rintro e w5 ⟨s, rfl, hx, c5, g5⟩
    have hs : s.size ≤ 100 := by
      simp only [List.mem_cons, List.not_mem_nil, or_false] at hx
      rcases hx with rfl | rfl | rfl <;> decide
    have HE5 := hide ((HE.out.alloc _).draws c5 g5)
    have z0 := (HE5.out.cellX 0 _ rfl).1
    have zf0 := (HE5.out.cellX 0 _ rfl).2
    have HE6 : Hid (Bn w0 B q b F cs T #[.string s, .int .i64 sal, .slice (some ⟨gP, 0, none⟩) P.length cP', .slice aC C.length cC, .slice aA A.length cA] (.slice (some ⟨gP, 0, none⟩) P.length cP') P (.slice aC C.length cC) C (.slice aA A.length cA) A (w5.setCell ⟨T, 0, none⟩ (.string s))) := HE5.out.setX 0 _
    clear hx c5 g5 HE HE5
    go_upto_region 17 with fail
    generalize w5.setCell ⟨T, 0, none⟩ (.string s) = w6 at HE6 ⊢
    have t0 := boxk_cell HE6.out.x 0 _ rfl
    have t1 := boxk_cell HE6.out.x 1 _ rfl
    have t2 := boxk_cell HE6.out.x 2 _ rfl
    have t3 := boxk_cell HE6.out.x 3 _ rfl
    have t4 := boxk_cell HE6.out.x 4 _ rfl
    have u0 := boxk_cell HE6.out.r 0 _ rfl
    have uf0 := boxk_frozen HE6.out.r 0
    have u1 := boxk_cell HE6.out.r 1 _ rfl
    have uf1 := boxk_frozen HE6.out.r 1
    have u2 := boxk_cell HE6.out.r 2 _ rfl
    have uf2 := boxk_frozen HE6.out.r 2
    have u3 := boxk_cell HE6.out.r 3 _ rfl
    have uf3 := boxk_frozen HE6.out.r 3
    have u4 := boxk_cell HE6.out.r 4 _ rfl
    have uf4 := boxk_frozen HE6.out.r 4
    clear z0 zf0
    go_wp2
    refine box5_post HE6.out.r (fun w9 h9 gr => ?_)
    clear t0 t1 t2 t3 t4 u0 u1 u2 u3 u4 uf0 uf1 uf2 uf3 uf4
    have d0 := boxk_cell h9 0 _ rfl
    have d1 := boxk_cell h9 1 _ rfl
    have d2 := boxk_cell h9 2 _ rfl
    have d3 := boxk_cell h9 3 _ rfl
    have d4 := boxk_cell h9 4 _ rfl
    exact bodyPost_ret (v := .agg #[.string s, .int .i64 sal, .slice (some ⟨gP, 0, none⟩) P.length cP', .slice aC C.length cC, .slice aA A.length cA]) (by simp [results, Try.results119, go_sem, d0, d1, d2, d3, d4]) rfl ⟨s, sal, _, P, _, C, _, A, rfl, hs, hb1.out.2.1, hb1.out.2.2.1, hb1.out.2.2.2.1, hb1.out.2.2.2.2, HE6.out.done gr⟩
  · go_wp2_with fail
    have hTw : T < w4.heap.size := (Array.getElem?_eq_some_iff.1 HE.out.x).1
    have hqT := HE.out.qT
    refine (l1Int_any B q w4.heap.size [-101, 101, 100] 3 _ (HE.out.alloc _).d.cur (by decide) (by decide) (by omega) (cells_lit w4 3 _)).mono ?_
    rintro e w5 ⟨s, rfl, hx, c5, g5⟩
    have HE5 := hide ((HE.out.alloc _).draws c5 g5)
    have z0 := (HE5.out.cellX 1 _ rfl).1
    have zf0 := (HE5.out.cellX 1 _ rfl).2
    have HE6 : Hid (Bn w0 B q b F cs T #[.string nm, .int .i64 s, .slice (some ⟨gP, 0, none⟩) P.length cP', .slice aC C.length cC, .slice aA A.length cA] (.slice (some ⟨gP, 0, none⟩) P.length cP') P (.slice aC C.length cC) C (.slice aA A.length cA) A (w5.setCell ⟨T, 1, none⟩ (.int .i64 s))) := HE5.out.setX 1 _
    clear hx c5 g5 HE HE5
    go_upto_region 17 with fail
    generalize w5.setCell ⟨T, 1, none⟩ (.int .i64 s) = w6 at HE6 ⊢
    have t0 := boxk_cell HE6.out.x 0 _ rfl
    have t1 := boxk_cell HE6.out.x 1 _ rfl
    have t2 := boxk_cell HE6.out.x 2 _ rfl
    have t3 := boxk_cell HE6.out.x 3 _ rfl
    have t4 := boxk_cell HE6.out.x 4 _ rfl
    have u0 := boxk_cell HE6.out.r 0 _ rfl
    have uf0 := boxk_frozen HE6.out.r 0
    have u1 := boxk_cell HE6.out.r 1 _ rfl
    have uf1 := boxk_frozen HE6.out.r 1
    have u2 := boxk_cell HE6.out.r 2 _ rfl
    have uf2 := boxk_frozen HE6.out.r 2
    have u3 := boxk_cell HE6.out.r 3 _ rfl
    have uf3 := boxk_frozen HE6.out.r 3
    have u4 := boxk_cell HE6.out.r 4 _ rfl
    have uf4 := boxk_frozen HE6.out.r 4
    clear z0 zf0
    go_wp2
    refine box5_post HE6.out.r (fun w9 h9 gr => ?_)
    clear t0 t1 t2 t3 t4 u0 u1 u2 u3 u4 uf0 uf1 uf2 uf3 uf4
    have d0 := boxk_cell h9 0 _ rfl
    have d1 := boxk_cell h9 1 _ rfl
    have d2 := boxk_cell h9 2 _ rfl
    have d3 := boxk_cell h9 3 _ rfl
    have d4 := boxk_cell h9 4 _ rfl
    exact bodyPost_ret (v := .agg #[.string nm, .int .i64 s, .slice (some ⟨gP, 0, none⟩) P.length cP', .slice aC C.length cC, .slice aA A.length cA]) (by simp [results, Try.results119, go_sem, d0, d1, d2, d3, d4]) rfl ⟨nm, s, _, P, _, C, _, A, rfl, hb1.out.1, hb1.out.2.1, hb1.out.2.2.1, hb1.out.2.2.2.1, hb1.out.2.2.2.2, HE6.out.done gr⟩
  · have c2' := (HE.out.cellX 2 _ rfl).1
    have f2' := (HE.out.cellX 2 _ rfl).2
    go_wp2_with fail
    go_region_law (first
      | (refine step_append_lies _ rfl (.tmp 27) (.tmp 30) 45 rfl b 79 iP (.agg #[.string ⟨#[]⟩, .slice none 0 0, .bool false]) 3 48 Try.underlying45 hiP hP0 hPa hPb rfl (by omega) (.slice (some ⟨gP, 0, none⟩) P.length cP') P.length (rowOf PE.cs P) (by simp [Act.eval]) (D3.alloc _).d.rP ⟨w5.heap.size, 0, none⟩ 1 1 (PE.cs ⟨kd, av, ac, L, nt⟩) (by simp [Act.eval]) rfl (src_row w5 #[.string kd, .slice av L.length ac, .bool nt] 79) (onePE _) (by omega) (by unfold maxLen; omega) (by omega) (D3.alloc _).d.bsz _ rfl ?_; intro g cap w6 ho4 hg4 hat4 hlt4; have D4 := (D3.alloc _).addP (u := ⟨kd, av, ac, L, nt⟩) hu (hiA.alloc _) ho4 hg4; have c4 := (D4.cellX 2 _ rfl).1; have f4 := (D4.cellX 2 _ rfl).2; have D5 := D4.setX 2 (.slice (some ⟨g, 0, none⟩) (P.length + 1) cap))
      | (rw [if_pos (by simp [Region.wanted])]; go_simp; go_at_call 146; refine (l6Any_any B q _ HE.out.drew.d.cur).mono ?_; rintro e w5 ⟨kd, nt, v3, L, rfl, hL, hkd, hsm, ho3, c3, g3⟩; obtain ⟨av, ac, rfl⟩ := own_slice ho3; have D3 := HE.out.drew.draws c3 g3; have hu : PE.tiny ⟨kd, av, ac, L, nt⟩ := ⟨⟨Nat.le_trans hkd (by decide), Nat.le_trans hL (by decide), hsm⟩, Nat.le_trans hkd (by decide), hL⟩; have hiA : w5.ownsRow b 157 5 (.slice av L.length ac) L.length (rowOf A5.cs L) := owns_base ho3 HE.out.d.bsz; have c3' := (D3.cellX 2 _ rfl).1; have f3' := (D3.cellX 2 _ rfl).2; have c3'' := ((D3.alloc (.cells #[.string kd, .slice av L.length ac, .bool nt] 79)).cellX 2 _ rfl).1; have f3'' := ((D3.alloc (.cells #[.string kd, .slice av L.length ac, .bool nt] 79)).cellX 2 _ rfl).2))
    all_goals
      have HE6 : Hid (Bn w0 B q b F cs T #[.string nm, .int .i64 sal, .slice (some ⟨g, 0, none⟩) (P.length + 1) cap, .slice aC C.length cC, .slice aA A.length cA] (.slice (some ⟨g, 0, none⟩) (P.length + 1) cap) (P ++ [⟨kd, av, ac, L, nt⟩]) (.slice aC C.length cC) C (.slice aA A.length cA) A (w6.setCell ⟨T, 2, none⟩ (.slice (some ⟨g, 0, none⟩) (P.length + 1) cap))) := D5
      clear c2' f2' c3' f3' c3'' f3'' c4 f4 D3 D4 D5 HE hu hiA ho3
      go_upto_region 17 with fail
      generalize w6.setCell ⟨T, 2, none⟩ (.slice (some ⟨g, 0, none⟩) (P.length + 1) cap) = w7 at HE6 ⊢
      have t0 := boxk_cell HE6.out.x 0 _ rfl
      have t1 := boxk_cell HE6.out.x 1 _ rfl
      have t2 := boxk_cell HE6.out.x 2 _ rfl
      have t3 := boxk_cell HE6.out.x 3 _ rfl
      have t4 := boxk_cell HE6.out.x 4 _ rfl
      have u0 := boxk_cell HE6.out.r 0 _ rfl
      have uf0 := boxk_frozen HE6.out.r 0
      have u1 := boxk_cell HE6.out.r 1 _ rfl
      have uf1 := boxk_frozen HE6.out.r 1
      have u2 := boxk_cell HE6.out.r 2 _ rfl
      have uf2 := boxk_frozen HE6.out.r 2
      have u3 := boxk_cell HE6.out.r 3 _ rfl
      have uf3 := boxk_frozen HE6.out.r 3
      have u4 := boxk_cell HE6.out.r 4 _ rfl
      have uf4 := boxk_frozen HE6.out.r 4
      go_wp2
      refine box5_post HE6.out.r (fun w9 h9 gr => ?_)
      clear t0 t1 t2 t3 t4 u0 u1 u2 u3 u4 uf0 uf1 uf2 uf3 uf4
      have d0 := boxk_cell h9 0 _ rfl
      have d1 := boxk_cell h9 1 _ rfl
      have d2 := boxk_cell h9 2 _ rfl
      have d3 := boxk_cell h9 3 _ rfl
      have d4 := boxk_cell h9 4 _ rfl
      exact bodyPost_ret (v := .agg #[.string nm, .int .i64 sal, .slice (some ⟨g, 0, none⟩) (P.length + 1) cap, .slice aC C.length cC, .slice aA A.length cA]) (by simp [results, Try.results119, go_sem, d0, d1, d2, d3, d4]) rfl ⟨nm, sal, _, (P ++ [⟨kd, av, ac, L, nt⟩]), _, C, _, A, rfl, hb1.out.1, by simp, by simp; omega, hb1.out.2.2.2.1, hb1.out.2.2.2.2, HE6.out.done gr⟩
  · have c3' := (HE.out.cellX 3 _ rfl).1
    have HL0 : Hid ((w4.alloc (.cells #[] 162)).ownsRow b 162 11 (.slice (some ⟨w4.heap.size, 0, none⟩) 0 0) 0 []) := ownsRow_baseR (World.ownsRow_lit _ #[] 0 (by simp) (Nat.zero_le _) rfl) HE.out.d.bsz
    have HRC : Hid (RdK C11.cs 11 (w4.alloc (.cells #[] 162)) aC C) := (rdK_of_row C11.len (by decide) HE.out.d.rC).below (below_al _ _)
    have y3 := ((HE.out.alloc (.cells #[] 162)).cellX 3 _ rfl).1
    go_wp2_with (at_builtin; refine wpList_copyC rfl (.tmp 35) (.tmp 37) rfl b w4.heap.size rfl HL0.out aC cC C.length C rfl rfl HRC.out (by omega) (by have := HE.out.d.bsz; simp; omega) ?_; intro gC cC' w5 hoC hgC; have hbC : Below w4.heap.size w4 w5 := (below_al w4 _).grown hgC (by simp) (fun k hk => by cases hk; exact Nat.le_refl _); have E5 := HE.out.newC hbC hoC)
    have HE5 := hide E5
    clear HE HL0 HRC y3 c3' hoC hgC hbC E5
    refine (l7Any_any B q _ HE5.out.d.cur).mono ?_
    rintro e w6 ⟨y, rfl, hy, c6, g6⟩
    have HE6 := hide (HE5.out.draws c6 g6)
    clear c6 g6 HE5
    have z3 := (HE6.out.cellX 3 _ rfl).1
    go_upto_region 17 with (at_builtin; refine wpList_append_lies _ rfl (.tmp 38) (.tmp 41) 46 rfl b 162 iC (.agg #[.int .i64 0, .int .i64 0, .string ⟨#[]⟩, .int .i64 0, .int .i64 0, .string ⟨#[]⟩, .int .i64 0, .string ⟨#[]⟩, .int .i64 0, .int .i64 0, .string ⟨#[]⟩]) 11 120 Try.underlying46 hiC hC0 hCa hCb rfl (by omega) (.slice (some ⟨gC, 0, none⟩) C.length cC') C.length (rowOf C11.cs C) rfl (HE6.out.alloc _).d.rC ⟨w6.heap.size, 0, none⟩ 1 1 (C11.cs y) rfl rfl (src_row w6 #[.int .i64 y.Op, .int .i64 y.L.K, .string y.L.S, .int .i64 y.L.V.K, .int .i64 y.L.V.N, .string y.L.V.S, .int .i64 y.R.K, .string y.R.S, .int .i64 y.R.V.K, .int .i64 y.R.V.N, .string y.R.V.S] 162) (oneC _) (by omega) (by unfold maxLen; omega) (by omega) (HE6.out.alloc _).d.bsz _ rfl ?_; intro g cap w7 ho hg hat hlt4; have D7 := (HE6.out.alloc (.cells #[.int .i64 y.Op, .int .i64 y.L.K, .string y.L.S, .int .i64 y.L.V.K, .int .i64 y.L.V.N, .string y.L.V.S, .int .i64 y.R.K, .string y.R.S, .int .i64 y.R.V.K, .int .i64 y.R.V.N, .string y.R.V.S] 162)).addC (u := y) hy ho hg; have f3 := (D7.cellX 3 _ rfl).1; have ff3 := (D7.cellX 3 _ rfl).2; have D8 := D7.setX 3 (.slice (some ⟨g, 0, none⟩) (C.length + 1) cap))
    have HE8 : Hid (Bn w0 B q b F cs T #[.string nm, .int .i64 sal, .slice (some ⟨gP, 0, none⟩) P.length cP', .slice (some ⟨g, 0, none⟩) (C.length + 1) cap, .slice aA A.length cA] (.slice (some ⟨gP, 0, none⟩) P.length cP') P (.slice (some ⟨g, 0, none⟩) (C.length + 1) cap) (C ++ [y]) (.slice aA A.length cA) A (w7.setCell ⟨T, 3, none⟩ (.slice (some ⟨g, 0, none⟩) (C.length + 1) cap))) := D8
    clear z3 f3 ff3 ho hg hat hlt4 D7 D8 HE6
    generalize w7.setCell ⟨T, 3, none⟩ (.slice (some ⟨g, 0, none⟩) (C.length + 1) cap) = w8 at HE8 ⊢
    have t0 := boxk_cell HE8.out.x 0 _ rfl
    have t1 := boxk_cell HE8.out.x 1 _ rfl
    have t2 := boxk_cell HE8.out.x 2 _ rfl
    have t3 := boxk_cell HE8.out.x 3 _ rfl
    have t4 := boxk_cell HE8.out.x 4 _ rfl
    have u0 := boxk_cell HE8.out.r 0 _ rfl
    have uf0 := boxk_frozen HE8.out.r 0
    have u1 := boxk_cell HE8.out.r 1 _ rfl
    have uf1 := boxk_frozen HE8.out.r 1
    have u2 := boxk_cell HE8.out.r 2 _ rfl
    have uf2 := boxk_frozen HE8.out.r 2
    have u3 := boxk_cell HE8.out.r 3 _ rfl
    have uf3 := boxk_frozen HE8.out.r 3
    have u4 := boxk_cell HE8.out.r 4 _ rfl
    have uf4 := boxk_frozen HE8.out.r 4
    go_wp2
    refine box5_post HE8.out.r (fun w9 h9 gr => ?_)
    clear t0 t1 t2 t3 t4 u0 u1 u2 u3 u4 uf0 uf1 uf2 uf3 uf4
    have d0 := boxk_cell h9 0 _ rfl
    have d1 := boxk_cell h9 1 _ rfl
    have d2 := boxk_cell h9 2 _ rfl
    have d3 := boxk_cell h9 3 _ rfl
    have d4 := boxk_cell h9 4 _ rfl
    exact bodyPost_ret (v := .agg #[.string nm, .int .i64 sal, .slice (some ⟨gP, 0, none⟩) P.length cP', .slice (some ⟨g, 0, none⟩) (C.length + 1) cap, .slice aA A.length cA]) (by simp [results, Try.results119, go_sem, d0, d1, d2, d3, d4]) rfl ⟨nm, sal, _, P, _, (C ++ [y]), _, A, rfl, hb1.out.1, hb1.out.2.1, hb1.out.2.2.1, by simp; omega, hb1.out.2.2.2.2, HE8.out.done gr⟩
  · have c4' := (HE.out.cellX 4 _ rfl).1
    have HL0 : Hid ((w4.alloc (.cells #[] 166)).ownsRow b 166 5 (.slice (some ⟨w4.heap.size, 0, none⟩) 0 0) 0 []) := ownsRow_baseR (World.ownsRow_lit _ #[] 0 (by simp) (Nat.zero_le _) rfl) HE.out.d.bsz
    have HRA : Hid (RdK QE.cs 5 (w4.alloc (.cells #[] 166)) aA A) := (rdK_of_row QE.len (by decide) HE.out.d.rA).below (below_al _ _)
    have y4 := ((HE.out.alloc (.cells #[] 166)).cellX 4 _ rfl).1
    go_wp2_with (at_builtin; refine wpList_copyA rfl (.tmp 46) (.tmp 48) rfl b w4.heap.size rfl HL0.out aA cA A.length A rfl rfl HRA.out (by omega) (by have := HE.out.d.bsz; simp; omega) ?_; intro gA cA' w5 hoA hgA; have hbA : Below w4.heap.size w4 w5 := (below_al w4 _).grown hgA (by simp) (fun k hk => by cases hk; exact Nat.le_refl _); have E5 := HE.out.newA hbA hoA)
    have HE5 := hide E5
    clear HE HL0 HRA y4 c4' hoA hgA hbA E5
    refine (l8Any_any B q _ HE5.out.d.cur).mono ?_
    rintro e w6 ⟨K, an, v8, L, N, un, rfl, hL, han, hun, hsm, ho8, c6, g6⟩
    obtain ⟨aa, ac, rfl⟩ := own_slice ho8
    have HE6 := hide (HE5.out.draws c6 g6)
    have HHi := hide (owns_base ho8 HE5.out.d.bsz)
    have HHu : Hid (QE.tiny ⟨K, an, aa, ac, L, N, un⟩) := by
      refine ⟨⟨?_, ?_, ?_, hsm⟩, han, hun, ?_⟩
      · show an.size ≤ 1048576; omega
      · show un.size ≤ 1048576; omega
      · show L.length ≤ 1048576; omega
      · show L.length ≤ 8; omega
    clear c6 g6 HE5 ho8 hsm
    have z4 := (HE6.out.cellX 4 _ rfl).1
    go_upto_region 17 with (at_builtin; refine wpList_append_lies _ rfl (.tmp 49) (.tmp 52) 47 rfl b 166 iA (.agg #[.int .i64 0, .string ⟨#[]⟩, .slice none 0 0, .int .i64 0, .string ⟨#[]⟩]) 5 72 Try.underlying47 hiA' hA0 hAa hAb rfl (by omega) (.slice (some ⟨gA, 0, none⟩) A.length cA') A.length (rowOf QE.cs A) rfl (HE6.out.alloc _).d.rA ⟨w6.heap.size, 0, none⟩ 1 1 (QE.cs ⟨K, an, aa, ac, L, N, un⟩) rfl rfl (src_row w6 #[.int .i64 K, .string an, .slice aa L.length ac, .int .i64 N, .string un] 166) (oneQ _) (by omega) (by unfold maxLen; omega) (by omega) (HE6.out.alloc _).d.bsz _ rfl ?_; intro g cap w7 ho hg hat hlt4; have D7 := (HE6.out.alloc (.cells #[.int .i64 K, .string an, .slice aa L.length ac, .int .i64 N, .string un] 166)).addA (u := ⟨K, an, aa, ac, L, N, un⟩) HHu.out (HHi.out.alloc _) ho hg; have f4 := (D7.cellX 4 _ rfl).1; have ff4 := (D7.cellX 4 _ rfl).2; have D8 := D7.setX 4 (.slice (some ⟨g, 0, none⟩) (A.length + 1) cap))
    have HE8 : Hid (Bn w0 B q b F cs T #[.string nm, .int .i64 sal, .slice (some ⟨gP, 0, none⟩) P.length cP', .slice aC C.length cC, .slice (some ⟨g, 0, none⟩) (A.length + 1) cap] (.slice (some ⟨gP, 0, none⟩) P.length cP') P (.slice aC C.length cC) C (.slice (some ⟨g, 0, none⟩) (A.length + 1) cap) (A ++ [⟨K, an, aa, ac, L, N, un⟩]) (w7.setCell ⟨T, 4, none⟩ (.slice (some ⟨g, 0, none⟩) (A.length + 1) cap))) := D8
    clear z4 f4 ff4 ho hg hat hlt4 D7 D8 HE6
    generalize w7.setCell ⟨T, 4, none⟩ (.slice (some ⟨g, 0, none⟩) (A.length + 1) cap) = w8 at HE8 ⊢
    have t0 := boxk_cell HE8.out.x 0 _ rfl
    have t1 := boxk_cell HE8.out.x 1 _ rfl
    have t2 := boxk_cell HE8.out.x 2 _ rfl
    have t3 := boxk_cell HE8.out.x 3 _ rfl
    have t4 := boxk_cell HE8.out.x 4 _ rfl
    have u0 := boxk_cell HE8.out.r 0 _ rfl
    have uf0 := boxk_frozen HE8.out.r 0
    have u1 := boxk_cell HE8.out.r 1 _ rfl
    have uf1 := boxk_frozen HE8.out.r 1
    have u2 := boxk_cell HE8.out.r 2 _ rfl
    have uf2 := boxk_frozen HE8.out.r 2
    have u3 := boxk_cell HE8.out.r 3 _ rfl
    have uf3 := boxk_frozen HE8.out.r 3
    have u4 := boxk_cell HE8.out.r 4 _ rfl
    have uf4 := boxk_frozen HE8.out.r 4
    go_wp2
    refine box5_post HE8.out.r (fun w9 h9 gr => ?_)
    clear t0 t1 t2 t3 t4 u0 u1 u2 u3 u4 uf0 uf1 uf2 uf3 uf4
    have d0 := boxk_cell h9 0 _ rfl
    have d1 := boxk_cell h9 1 _ rfl
    have d2 := boxk_cell h9 2 _ rfl
    have d3 := boxk_cell h9 3 _ rfl
    have d4 := boxk_cell h9 4 _ rfl
    exact bodyPost_ret (v := .agg #[.string nm, .int .i64 sal, .slice (some ⟨gP, 0, none⟩) P.length cP', .slice aC C.length cC, .slice (some ⟨g, 0, none⟩) (A.length + 1) cap]) (by simp [results, Try.results119, go_sem, d0, d1, d2, d3, d4]) rfl ⟨nm, sal, _, P, _, C, _, (A ++ [⟨K, an, aa, ac, L, N, un⟩]), rfl, hb1.out.1, hb1.out.2.1, hb1.out.2.2.1, hb1.out.2.2.2.1, by simp; omega, HE8.out.done gr⟩
  · have c2' := (HE.out.cellX 2 _ rfl).1
    have hlen : 0 < P.length := hP1
    obtain ⟨u2, m2⟩ : ∃ u, w4.cell? ⟨gP, 2, none⟩ = some u := by
      have h1 : (rowOf PE.cs P).length = P.length * 3 := rowOf_length PE.len P
      rw [HE.out.d.rP.cellAt 2 (by omega), List.getElem?_eq_getElem (by omega)]
      exact ⟨_, rfl⟩
    have mf2 := HE.out.d.rP.frozenAt 2
    obtain ⟨gr, D5⟩ := HE.out.d.setNt rfl hlen
    have hne : ∀ p cs', w4.heap[p]? = some (.cells cs' 49 (0, 0)) → p ≠ gP := fun p cs' hp e => row_apart HE.out.d.rP hp (by decide) (by rw [e]; rfl)
    have HE8 : Hid (Bn w0 B q b F cs T #[.string nm, .int .i64 sal, .slice (some ⟨gP, 0, none⟩) P.length cP', .slice aC C.length cC, .slice aA A.length cA] (.slice (some ⟨gP, 0, none⟩) P.length cP') (P.set 0 { eAt P 0 with nt := true }) (.slice aC C.length cC) C (.slice aA A.length cA) A (w4.setCell ⟨gP, 2, none⟩ (.bool true))) := ⟨D5, box_gr HE.out.x gr (hne _ _ HE.out.x), box_gr HE.out.r gr (hne _ _ HE.out.r), HE.out.hT, HE.out.TF⟩
    clear gr D5 hne
    go_upto_region 17 with fail
    generalize w4.setCell ⟨gP, 2, none⟩ (.bool true) = w8 at HE8 ⊢
    clear c2' m2 mf2 HE
    have t0 := boxk_cell HE8.out.x 0 _ rfl
    have t1 := boxk_cell HE8.out.x 1 _ rfl
    have t2 := boxk_cell HE8.out.x 2 _ rfl
    have t3 := boxk_cell HE8.out.x 3 _ rfl
    have t4 := boxk_cell HE8.out.x 4 _ rfl
    have u0 := boxk_cell HE8.out.r 0 _ rfl
    have uf0 := boxk_frozen HE8.out.r 0
    have u1 := boxk_cell HE8.out.r 1 _ rfl
    have uf1 := boxk_frozen HE8.out.r 1
    have u2 := boxk_cell HE8.out.r 2 _ rfl
    have uf2 := boxk_frozen HE8.out.r 2
    have u3 := boxk_cell HE8.out.r 3 _ rfl
    have uf3 := boxk_frozen HE8.out.r 3
    have u4 := boxk_cell HE8.out.r 4 _ rfl
    have uf4 := boxk_frozen HE8.out.r 4
    go_wp2
    refine box5_post HE8.out.r (fun w9 h9 gr => ?_)
    clear t0 t1 t2 t3 t4 u0 u1 u2 u3 u4 uf0 uf1 uf2 uf3 uf4
    have d0 := boxk_cell h9 0 _ rfl
    have d1 := boxk_cell h9 1 _ rfl
    have d2 := boxk_cell h9 2 _ rfl
    have d3 := boxk_cell h9 3 _ rfl
    have d4 := boxk_cell h9 4 _ rfl
    exact bodyPost_ret (v := .agg #[.string nm, .int .i64 sal, .slice (some ⟨gP, 0, none⟩) P.length cP', .slice aC C.length cC, .slice aA A.length cA]) (by simp [results, Try.results119, go_sem, d0, d1, d2, d3, d4]) rfl ⟨nm, sal, _, (P.set 0 { eAt P 0 with nt := true }), _, C, _, A, rfl, hb1.out.1, by rw [List.length_set]; exact hb1.out.2.1, by rw [List.length_set]; exact hb1.out.2.2.1, hb1.out.2.2.2.1, hb1.out.2.2.2.2, HE8.out.done gr⟩
  · have c4' := (HE.out.cellX 4 _ rfl).1
    have f4' := (HE.out.cellX 4 _ rfl).2
    have hcA : (0 : Int) ≤ (cA : Int) := by omega
    have hcA1 : 1 ≤ cA := by
      obtain ⟨a', c', e', -, -, hl, -⟩ := rdK_owns QE.len (by decide) HE.out.d.rA
      simp only [Value.slice.injEq] at e'
      omega
    have hcA2 : ¬ (cA = 0) := by omega
    have D5 := HE.out.d.cutA rfl (by omega)
    have E5 : Bn w0 B q b F cs T _ (.slice (some ⟨gP, 0, none⟩) P.length cP') P (.slice aC C.length cC) C (.slice aA 0 cA) [] w4 := ⟨D5, HE.out.x, HE.out.r, HE.out.hT, HE.out.TF⟩
    have HE8 : Hid (Bn w0 B q b F cs T #[.string nm, .int .i64 sal, .slice (some ⟨gP, 0, none⟩) P.length cP', .slice aC C.length cC, .slice aA 0 cA] (.slice (some ⟨gP, 0, none⟩) P.length cP') P (.slice aC C.length cC) C (.slice aA 0 cA) [] (w4.setCell ⟨T, 4, none⟩ (.slice aA 0 cA))) := E5.setX 4 _
    clear D5 E5
    go_upto_region 17 with fail
    generalize w4.setCell ⟨T, 4, none⟩ (.slice aA 0 cA) = w8 at HE8 ⊢
    clear c4' f4' HE
    have t0 := boxk_cell HE8.out.x 0 _ rfl
    have t1 := boxk_cell HE8.out.x 1 _ rfl
    have t2 := boxk_cell HE8.out.x 2 _ rfl
    have t3 := boxk_cell HE8.out.x 3 _ rfl
    have t4 := boxk_cell HE8.out.x 4 _ rfl
    have u0 := boxk_cell HE8.out.r 0 _ rfl
    have uf0 := boxk_frozen HE8.out.r 0
    have u1 := boxk_cell HE8.out.r 1 _ rfl
    have uf1 := boxk_frozen HE8.out.r 1
    have u2 := boxk_cell HE8.out.r 2 _ rfl
    have uf2 := boxk_frozen HE8.out.r 2
    have u3 := boxk_cell HE8.out.r 3 _ rfl
    have uf3 := boxk_frozen HE8.out.r 3
    have u4 := boxk_cell HE8.out.r 4 _ rfl
    have uf4 := boxk_frozen HE8.out.r 4
    go_wp2
    refine box5_post HE8.out.r (fun w9 h9 gr => ?_)
    clear t0 t1 t2 t3 t4 u0 u1 u2 u3 u4 uf0 uf1 uf2 uf3 uf4
    have d0 := boxk_cell h9 0 _ rfl
    have d1 := boxk_cell h9 1 _ rfl
    have d2 := boxk_cell h9 2 _ rfl
    have d3 := boxk_cell h9 3 _ rfl
    have d4 := boxk_cell h9 4 _ rfl
    exact bodyPost_ret (v := .agg #[.string nm, .int .i64 sal, .slice (some ⟨gP, 0, none⟩) P.length cP', .slice aC C.length cC, .slice aA 0 cA]) (by simp [results, Try.results119, go_sem, d0, d1, d2, d3, d4]) rfl ⟨nm, sal, _, P, _, C, _, [], rfl, hb1.out.1, hb1.out.2.1, hb1.out.2.2.1, hb1.out.2.2.2.1, by simp, HE8.out.done gr⟩
  all_goals
    have t0 := boxk_cell HE.out.x 0 _ rfl
    have t1 := boxk_cell HE.out.x 1 _ rfl
    have t2 := boxk_cell HE.out.x 2 _ rfl
    have t3 := boxk_cell HE.out.x 3 _ rfl
    have t4 := boxk_cell HE.out.x 4 _ rfl
    have u0 := boxk_cell HE.out.r 0 _ rfl
    have uf0 := boxk_frozen HE.out.r 0
    have u1 := boxk_cell HE.out.r 1 _ rfl
    have uf1 := boxk_frozen HE.out.r 1
    have u2 := boxk_cell HE.out.r 2 _ rfl
    have uf2 := boxk_frozen HE.out.r 2
    have u3 := boxk_cell HE.out.r 3 _ rfl
    have uf3 := boxk_frozen HE.out.r 3
    have u4 := boxk_cell HE.out.r 4 _ rfl
    have uf4 := boxk_frozen HE.out.r 4
    go_wp2
    refine box5_post HE.out.r (fun w9 h9 gr => ?_)
    clear t0 t1 t2 t3 t4 u0 u1 u2 u3 u4 uf0 uf1 uf2 uf3 uf4
    have d0 := boxk_cell h9 0 _ rfl
    have d1 := boxk_cell h9 1 _ rfl
    have d2 := boxk_cell h9 2 _ rfl
    have d3 := boxk_cell h9 3 _ rfl
    have d4 := boxk_cell h9 4 _ rfl
    exact bodyPost_ret (v := .agg #[.string nm, .int .i64 sal, .slice (some ⟨gP, 0, none⟩) P.length cP', .slice aC C.length cC, .slice aA A.length cA]) (by simp [results, Try.results119, go_sem, d0, d1, d2, d3, d4]) rfl ⟨nm, sal, _, P, _, C, _, A, rfl, hb1.out.1, hb1.out.2.1, hb1.out.2.2.1, hb1.out.2.2.2.1, hb1.out.2.2.2.2, HE.out.done gr⟩
end Go.Proofs.Ytfgigcdfmkfkjaa
