/-
  The contract of the draw of three facts.
-/
import Derived.Test.YtddcmifebhdgfaaDrawF
import Derived.Test.YtddcmifebhdgfaaFactSame
namespace Go.Proofs.Ytddcmifebhdgfaa
open Go.RowKit
set_option linter.unusedVariables false

theorem rowV {w : World} {base : Nat} {v : Value} {L : List V3} (h : w.ownsRow base 43 3 v L.length (cells3 L)) : ∃ a cap, v = .slice a L.length cap ∧ LiesV a L.length cap ∧ RdV w a L := by
  obtain ⟨a, cap, e, hr, -, -, -⟩ := rdV_owns h
  refine ⟨a, cap, e, ?_, hr⟩
  rcases h.2 with ⟨h1, h0⟩ | ⟨g, cap', cur, h1, hb, hg, hnc, hcm, _⟩
  · rw [e] at h1
    simp only [Value.slice.injEq] at h1
    exact .inl ⟨h1.1, h0, h1.2.2⟩
  · rw [e] at h1
    simp only [Value.slice.injEq] at h1
    exact .inr ⟨g, 0, h1.1, by omega, by omega⟩
theorem rowV_keep {w w' : World} {base q : Nat} {v : Value} {L : List V3} (h : w.ownsRow base 43 3 v L.length (cells3 L)) (g : w.grownBy w' (some q)) (hq : q < base) : w'.ownsRow base 43 3 v L.length (cells3 L) :=
  h.kept g (by
    cases hv2 : v.ownBlock with
    | none => exact .inl rfl
    | some k => right; intro e; have := (h.lt k hv2).1; cases e; omega)

/-- three facts were drawn -/
def Drawn3 (w : World) (e : Ending) (w' : World) : Prop := ∃ (k1 k2 k3 : ByteArray) (v1 v2 v3 : Value) (L1 L2 L3 : List V3), e = .returned (.tuple #[.agg #[.string k1, v1], .agg #[.string k2, v2], .agg #[.string k3, v3]]) ∧
  (L1.length ≤ 6 ∧ L2.length ≤ 6 ∧ L3.length ≤ 6) ∧ w'.ownsRow w.heap.size 43 3 v1 L1.length (cells3 L1) ∧ w'.ownsRow w.heap.size 43 3 v2 L2.length (cells3 L2) ∧ w'.ownsRow w.heap.size 43 3 v3 L3.length (cells3 L3) ∧ Below w.heap.size w w'

set_option maxRecDepth 100000 in
set_option maxHeartbeats 3200000 in
theorem drawThree_any (a : Option Addr) (cap : Nat) (code : List UInt8) (w : World) (hr : Rd w a code) (hn : code.length ≤ 1048576) :
    Calls Try.prog 7 #[.slice a code.length cap] w (Drawn3 w) := by
  go_enter Try.func7, Try.ntmps7
  go_wp2_with fail
  have b1 := (Below.refl w.heap.size w).alloc (Nat.le_refl _) (.cells #[.string ⟨#[]⟩, .slice none 0 0] 26)
  have b2 := b1.alloc b1.size (.cells #[.string ⟨#[]⟩, .slice none 0 0] 26)
  have b3 := b2.alloc b2.size (.cells #[.string ⟨#[]⟩, .slice none 0 0] 26)
  have r1 := box_old (box_old (box2_new w (.string ⟨#[]⟩) (.slice none 0 0) 26) (by simp) (.cells #[.string ⟨#[]⟩, .slice none 0 0] 26)) (by simp; omega) (.cells #[.string ⟨#[]⟩, .slice none 0 0] 26)
  have r2 := box_old (box2_new (w.alloc (.cells #[.string ⟨#[]⟩, .slice none 0 0] 26)) (.string ⟨#[]⟩) (.slice none 0 0) 26) (by simp) (.cells #[.string ⟨#[]⟩, .slice none 0 0] 26)
  have r3 := box2_new ((w.alloc (.cells #[.string ⟨#[]⟩, .slice none 0 0] 26)).alloc (.cells #[.string ⟨#[]⟩, .slice none 0 0] 26)) (.string ⟨#[]⟩) (.slice none 0 0) 26
  have z3 : (((w.alloc (.cells #[.string ⟨#[]⟩, .slice none 0 0] 26)).alloc (.cells #[.string ⟨#[]⟩, .slice none 0 0] 26)).alloc (.cells #[.string ⟨#[]⟩, .slice none 0 0] 26)).heap.size = w.heap.size + 1 + 1 + 1 := by simp
  simp only [World.size_alloc] at r2 r3
  generalize ((w.alloc (.cells #[.string ⟨#[]⟩, .slice none 0 0] 26)).alloc (.cells #[.string ⟨#[]⟩, .slice none 0 0] 26)).alloc (.cells #[.string ⟨#[]⟩, .slice none 0 0] 26) = w0 at b3 r1 r2 r3 z3 ⊢
  clear b1 b2
  refine (l1New_any w.heap.size a cap code w0 (hr.toB.below b3) hn b3.size).mono ?_
  rintro e w1 ⟨rfl, c1, g1⟩
  rw [z3] at c1 ⊢
  have q1 := c1.lt
  have R1 := hide (show w1.heap[w.heap.size]? = _ from (g1.block _ (by omega) (by simp)).trans r1)
  have R2 := hide (show w1.heap[w.heap.size + 1]? = _ from (g1.block _ (by omega) (by simp)).trans r2)
  have R3 := hide (show w1.heap[w.heap.size + 1 + 1]? = _ from (g1.block _ (by omega) (by simp)).trans r3)
  have B1 : Below w.heap.size w w1 := b3.trans ((((Below.refl _ _).grown g1 (Nat.le_refl _) (fun k hk => by cases hk))).mono b3.size)
  clear r1 r2 r3 b3 g1
  go_wp2_with fail
  refine (l3Draw_any w.heap.size (w.heap.size + 1 + 1 + 1) w1 c1).mono ?_
  rintro e w2 ⟨k1, v1, L1, rfl, l1, o1, c2, g2⟩
  have R1' := hide (box_grown R1.out g2 (by omega))
  have R2' := hide (box_grown R2.out g2 (by omega))
  have R3' := hide (box_grown R3.out g2 (by omega))
  have B2 : Below w.heap.size w w2 := B1.grown g2 B1.size (fun k hk => by cases hk; omega)
  have s2 := g2.size
  clear R1 R2 R3 g2 B1 c1
  go_wp2_with fail
  refine (l3Draw_any w.heap.size (w.heap.size + 1 + 1 + 1) w2 c2).mono ?_
  rintro e w3 ⟨k2, v2, L2, rfl, l2, o2, c3, g3⟩
  have o1' := rowV_keep o1 g3 (by omega)
  have R1 := hide (box_grown R1'.out g3 (by omega))
  have R2 := hide (box_grown R2'.out g3 (by omega))
  have R3 := hide (box_grown R3'.out g3 (by omega))
  have B3 : Below w.heap.size w w3 := B2.grown g3 B2.size (fun k hk => by cases hk; omega)
  have s3 := g3.size
  clear R1' R2' R3' g3 B2 c2 o1
  go_wp2_with fail
  refine (l3Draw_any w.heap.size (w.heap.size + 1 + 1 + 1) w3 c3).mono ?_
  rintro e w4 ⟨k3, v3, L3, rfl, l3, o3, c4, g4⟩
  have p1 := rowV_keep o1' g4 (by omega)
  have p2 := rowV_keep o2 g4 (by omega)
  have R1' := hide (box_grown R1.out g4 (by omega))
  have R2' := hide (box_grown R2.out g4 (by omega))
  have R3' := hide (box_grown R3.out g4 (by omega))
  have B4 : Below w.heap.size w w4 := B3.grown g4 B3.size (fun k hk => by cases hk; omega)
  clear R1 R2 R3 g4 B3 c3 o1' o2 c4
  obtain ⟨a1, n1, e1, -, -⟩ := rowV p1
  obtain ⟨a2, n2, e2, -, -⟩ := rowV p2
  obtain ⟨a3, n3, e3, -, -⟩ := rowV o3
  subst e1 e2 e3
  have P1 := hide p1
  have P2 := hide p2
  have P3 := hide o3
  clear p1 p2 o3
  have H1 := hide (box2_set R1'.out (.string k1) (.slice a1 L1.length n1))
  obtain ⟨x0, x1, y0, y1⟩ := box2_cell R1'.out
  obtain ⟨x2, x3, y2, y3⟩ := box2_cell R2'.out
  obtain ⟨x4, x5, y4, y5⟩ := box2_cell R3'.out
  have H2 := hide (box2_set (box_grown R2'.out H1.out.2 (by omega)) (.string k2) (.slice a2 L2.length n2))
  have H3 := hide (box2_set (box_grown (box_grown R3'.out H1.out.2 (by omega)) H2.out.2 (by omega)) (.string k3) (.slice a3 L3.length n3))
  have F1 := hide (box_grown (box_grown H1.out.1 H2.out.2 (by omega)) H3.out.2 (by omega))
  have F2 := hide (box_grown H2.out.1 H3.out.2 (by omega))
  have F3 := hide H3.out.1
  have Q1 := hide (rowV_keep (rowV_keep (rowV_keep P1.out H1.out.2 (by omega)) H2.out.2 (by omega)) H3.out.2 (by omega))
  have Q2 := hide (rowV_keep (rowV_keep (rowV_keep P2.out H1.out.2 (by omega)) H2.out.2 (by omega)) H3.out.2 (by omega))
  have Q3 := hide (rowV_keep (rowV_keep (rowV_keep P3.out H1.out.2 (by omega)) H2.out.2 (by omega)) H3.out.2 (by omega))
  have BB := hide (((B4.grown H1.out.2 B4.size (fun k hk => by cases hk; omega)).grown H2.out.2 (by have := H1.out.2.size; have := B4.size; omega) (fun k hk => by cases hk; omega)).grown H3.out.2 (by have := H1.out.2.size; have := H2.out.2.size; have := B4.size; omega) (fun k hk => by cases hk; omega))
  clear H1 H2 H3 R1' R2' R3' P1 P2 P3 B4
  go_wp2
  generalize (((((w4.setCell ⟨w.heap.size, 0, none⟩ (.string k1)).setCell ⟨w.heap.size, 1, none⟩ (.slice a1 L1.length n1)).setCell ⟨w.heap.size + 1, 0, none⟩ (.string k2)).setCell ⟨w.heap.size + 1, 1, none⟩ (.slice a2 L2.length n2)).setCell ⟨w.heap.size + 1 + 1, 0, none⟩ (.string k3)).setCell ⟨w.heap.size + 1 + 1, 1, none⟩ (.slice a3 L3.length n3) = w5 at F1 F2 F3 Q1 Q2 Q3 BB ⊢
  clear x0 x1 x2 x3 x4 x5 y0 y1 y2 y3 y4 y5
  obtain ⟨x0, x1, -, -⟩ := box2_cell F1.out
  obtain ⟨x2, x3, -, -⟩ := box2_cell F2.out
  obtain ⟨x4, x5, -, -⟩ := box2_cell F3.out
  exact bodyPost_ret (v := .tuple #[.agg #[.string k1, .slice a1 L1.length n1], .agg #[.string k2, .slice a2 L2.length n2], .agg #[.string k3, .slice a3 L3.length n3]]) (by simp [results, Try.results7, go_sem, x0, x1, x2, x3, x4, x5]) rfl
    ⟨k1, k2, k3, _, _, _, L1, L2, L3, rfl, ⟨l1, l2, l3⟩, owns_base Q1.out (by omega), owns_base Q2.out (by omega), owns_base Q3.out (by omega), BB.out⟩
end Go.Proofs.Ytddcmifebhdgfaa
