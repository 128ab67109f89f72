/-
  The contract of the draw of bytes and a value.
-/
import Derived.Test.YtofdbnkeddcdjaaDoorDrawA
namespace Go.Proofs.YtofdbnkeddcdjaaDoor
open Go.RowKit
set_option linter.unusedVariables false

set_option maxRecDepth 100000 in
set_option maxHeartbeats 1600000 in
theorem drawPutVal_any (a : Option Addr) (cap : Nat) (code : List UInt8) (w : World) (hr : Rd w a code) (hn : code.length ≤ 1048576) :
    Calls Tryd.prog 6 #[.slice a code.length cap] w fun e w' =>
      ∃ v bs K N S, e = .returned (.tuple #[v, .agg #[.int .i64 K, .int .i64 N, .string S]]) ∧ bs.length ≤ 9 ∧ S.size ≤ 21 ∧ w'.ownsRow w.heap.size 5 1 v bs.length (vals bs) ∧ v ≠ .slice none 0 0 ∧ w.grownBy w' none := by
  go_enter Tryd.func6, Tryd.ntmps6
  go_wp2_with fail
  have ga := World.grownBy_alloc w (.cells #[.int .i64 0, .int .i64 0, .string ⟨#[]⟩] 25) none
  refine (l1New_any w.heap.size a cap code _ (hr.toB.below ((Below.refl _ _).alloc (Nat.le_refl _) _)) hn (by simp)).mono ?_
  rintro e w1 ⟨rfl, c1, g1⟩
  have HR1 := hide (show w1.heap[w.heap.size]? = _ from (g1.block w.heap.size (by simp) (by simp)).trans (box_new w (.int .i64 0) (.int .i64 0) (.string ⟨#[]⟩) 25))
  have G1 : w.grownBy w1 none := ga.trans g1
  have hlt := c1.lt
  simp only [World.size_alloc] at c1 hlt ⊢
  clear ga g1
  go_wp2_with fail
  refine (l1Some_any w.heap.size (w.heap.size + 1) w1 c1).mono ?_
  rintro e w2 ⟨v, bs, rfl, hl, ho, hv, c2, g2⟩
  have HV := hide hv
  have HR2 := hide (box_grown HR1.out g2 (by omega))
  have G2 : w.grownBy w2 none := grown_more G1 g2 (fun j hj => by cases hj; omega)
  clear hv g2 c1 HR1
  go_wp2_with fail
  refine (l2Any_any w.heap.size (w.heap.size + 1) w2 c2).mono ?_
  rintro e w3 ⟨K, N, S, rfl, hS, c3, g3⟩
  have ho3 := ho.kept g3 (by
    cases hv2 : Value.ownBlock _ with
    | none => exact .inl rfl
    | some g => right; intro e; have := (ho.lt g hv2).1; cases e; omega)
  have HR3 := hide (box_grown HR2.out g3 (by omega))
  have G3 : w.grownBy w3 none := grown_more G2 g3 (fun j hj => by cases hj; omega)
  have HO := hide ho3
  have hz := G1.size
  clear ho g3 c2 ho3 HR2
  obtain ⟨a0, a1, a2, f0, f1, f2⟩ := box_cell HR3.out
  go_wp2
  refine box_post HR3.out (fun w4 h4 gr => ?_)
  clear a0 a1 a2 f0 f1 f2
  obtain ⟨a0, a1, a2, -, -, -⟩ := box_cell h4
  have HO4 := HO.out.kept gr (by
    cases hv2 : Value.ownBlock _ with
    | none => exact .inl rfl
    | some g => right; intro e; have := (HO.out.lt g hv2).1; cases e; omega)
  exact bodyPost_ret (v := .tuple #[v, .agg #[.int .i64 K, .int .i64 N, .string S]]) (by simp [results, Tryd.results6, go_sem, a0, a1, a2]) rfl ⟨_, bs, K, N, S, rfl, hl, hS, owns_base HO4 (by omega), HV.out, grown_more G3 gr (fun j hj => by cases hj; omega)⟩
end Go.Proofs.YtofdbnkeddcdjaaDoor
