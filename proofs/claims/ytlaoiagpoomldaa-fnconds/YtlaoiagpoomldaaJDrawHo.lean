/-
  The contract of what Holds is asked: some condition and some binds.
-/
import Derived.Test.YtlaoiagpoomldaaJDrawCa
namespace Go.Proofs.Ytlaoiagpoomldaa
open Go.RowKit
set_option linter.unusedVariables false

/-- some condition and some binds were drawn -/
def DrawnH (w : World) (e : Ending) (w' : World) : Prop := ∃ (x : C11) (g c : Nat) (M : List B4), e = .returned (.tuple #[.agg #[.int .i64 x.Op, .int .i64 x.L.K, .string x.L.S, .int .i64 x.L.V.K, .int .i64 x.L.V.N, .string x.L.V.S, .int .i64 x.R.K, .string x.R.S, .int .i64 x.R.V.K, .int .i64 x.R.V.N, .string x.R.V.S], .slice (some ⟨g, 0, none⟩) M.length c]) ∧ x.small ∧ M.length ≤ 3 ∧ (∀ y ∈ M, y.small) ∧ RdBind w' (some ⟨g, 0, none⟩) M ∧ Below w.heap.size w w'

set_option maxRecDepth 100000 in
set_option maxHeartbeats 1600000 in
theorem drawHolds_any (a : Option Addr) (cap : Nat) (code : List UInt8) (w : World) (hr : Rd w a code) (hn : code.length ≤ 1048576) :
    Calls Try.prog 28 #[.slice a code.length cap] w (DrawnH w) := by
  go_enter Try.func28, Try.ntmps28
  go_wp2_with fail
  have b1 := below_al w (.cells #[.int .i64 0, .int .i64 0, .string ⟨#[]⟩, .int .i64 0, .int .i64 0, .string ⟨#[]⟩, .int .i64 0, .string ⟨#[]⟩, .int .i64 0, .int .i64 0, .string ⟨#[]⟩] 34)
  have r1 := boxk_new w #[.int .i64 0, .int .i64 0, .string ⟨#[]⟩, .int .i64 0, .int .i64 0, .string ⟨#[]⟩, .int .i64 0, .string ⟨#[]⟩, .int .i64 0, .int .i64 0, .string ⟨#[]⟩] 34
  have z1 : (w.alloc (.cells #[.int .i64 0, .int .i64 0, .string ⟨#[]⟩, .int .i64 0, .int .i64 0, .string ⟨#[]⟩, .int .i64 0, .string ⟨#[]⟩, .int .i64 0, .int .i64 0, .string ⟨#[]⟩] 34)).heap.size = w.heap.size + 1 := by simp
  generalize w.alloc (.cells #[.int .i64 0, .int .i64 0, .string ⟨#[]⟩, .int .i64 0, .int .i64 0, .string ⟨#[]⟩, .int .i64 0, .string ⟨#[]⟩, .int .i64 0, .int .i64 0, .string ⟨#[]⟩] 34) = w0 at b1 r1 z1 ⊢
  refine (l1New_any w.heap.size a cap code w0 (hr.toB.below b1) hn b1.size).mono ?_
  rintro e w1 ⟨rfl, c1, g1⟩
  rw [z1] at c1 ⊢
  have q1 := c1.lt
  have R1 := hide (show w1.heap[w.heap.size]? = _ from (g1.block _ (by omega) (by simp)).trans r1)
  have B1 : Below w.heap.size w w1 := b1.trans ((((Below.refl _ _).grown g1 (Nat.le_refl _) (fun k hk => by cases hk))).mono b1.size)
  clear r1 b1 g1
  go_wp2_with fail
  refine (l7Any_any w.heap.size (w.heap.size + 1) w1 c1).mono ?_
  rintro e w2 ⟨x, rfl, hx, c2, g2⟩
  have R2 := hide (box_grown R1.out g2 (by omega))
  have B2 : Below w.heap.size w w2 := B1.grown g2 B1.size (fun k hk => by cases hk; omega)
  have s2 := g2.size
  clear R1 g2 B1 c1
  go_wp2_with fail
  refine (l6Binds_any w.heap.size (w.heap.size + 1) w2 c2).mono ?_
  rintro e w3 ⟨g, c, M, rfl, hM, hsm, o3, c3, g3⟩
  have R3 := hide (box_grown R2.out g3 (by omega))
  have B3 : Below w.heap.size w w3 := B2.grown g3 B2.size (fun k hk => by cases hk; omega)
  have l3 := (Array.getElem?_eq_some_iff.1 R3.out).1
  have hg := (o3.lt g rfl).1
  have HSm := hide hsm
  have HO := hide o3
  clear R2 g3 B2 c2 hsm o3
  have r0 := boxk_cell R3.out 0 _ rfl
  have f0 := boxk_frozen R3.out 0
  have r1 := boxk_cell R3.out 1 _ rfl
  have f1 := boxk_frozen R3.out 1
  have r2 := boxk_cell R3.out 2 _ rfl
  have f2 := boxk_frozen R3.out 2
  have r3 := boxk_cell R3.out 3 _ rfl
  have f3 := boxk_frozen R3.out 3
  have r4 := boxk_cell R3.out 4 _ rfl
  have f4 := boxk_frozen R3.out 4
  have r5 := boxk_cell R3.out 5 _ rfl
  have f5 := boxk_frozen R3.out 5
  have r6 := boxk_cell R3.out 6 _ rfl
  have f6 := boxk_frozen R3.out 6
  have r7 := boxk_cell R3.out 7 _ rfl
  have f7 := boxk_frozen R3.out 7
  have r8 := boxk_cell R3.out 8 _ rfl
  have f8 := boxk_frozen R3.out 8
  have r9 := boxk_cell R3.out 9 _ rfl
  have f9 := boxk_frozen R3.out 9
  have r10 := boxk_cell R3.out 10 _ rfl
  have f10 := boxk_frozen R3.out 10
  go_wp2
  refine box11_post R3.out (fun w4 h4 gr => ?_)
  clear r0 f0 r1 f1 r2 f2 r3 f3 r4 f4 r5 f5 r6 f6 r7 f7 r8 f8 r9 f9 r10 f10
  have b0 := boxk_cell h4 0 _ rfl
  have b1 := boxk_cell h4 1 _ rfl
  have b2 := boxk_cell h4 2 _ rfl
  have b3 := boxk_cell h4 3 _ rfl
  have b4 := boxk_cell h4 4 _ rfl
  have b5 := boxk_cell h4 5 _ rfl
  have b6 := boxk_cell h4 6 _ rfl
  have b7 := boxk_cell h4 7 _ rfl
  have b8 := boxk_cell h4 8 _ rfl
  have b9 := boxk_cell h4 9 _ rfl
  have b10 := boxk_cell h4 10 _ rfl
  have o4 := HO.out.kept gr (.inr (by simp [Value.ownBlock]; omega))
  have rd4 : RdBind w4 (some ⟨g, 0, none⟩) M := rdOwnBind (OwnK.of B4.len (by decide) o4)
  refine bodyPost_ret (v := .tuple #[.agg #[.int .i64 x.Op, .int .i64 x.L.K, .string x.L.S, .int .i64 x.L.V.K, .int .i64 x.L.V.N, .string x.L.V.S, .int .i64 x.R.K, .string x.R.S, .int .i64 x.R.V.K, .int .i64 x.R.V.N, .string x.R.V.S], .slice (some ⟨g, 0, none⟩) M.length c]) (by simp [results, Try.results28, go_sem, b0, b1, b2, b3, b4, b5, b6, b7, b8, b9, b10]) rfl ⟨x, g, c, M, rfl, hx, hM, HSm.out, rd4, below_set B3 gr (by omega)⟩
end Go.Proofs.Ytlaoiagpoomldaa
