/-
  The contract of DrawActOk.
-/
import Derived.Test.YtaflokfgbmlmaacDoorJDrawAe
namespace Go.Proofs.YtaflokfgbmlmaacDoor
open Go.RowKit
set_option linter.unusedVariables false

/-- a drawn act -/
def DrawnAct (w : World) (e : Ending) (w' : World) : Prop := ∃ (K : Int) (nm : ByteArray) (a : Option Addr) (c : Nat) (L : List X11) (N : Int) (un : ByteArray), e = .returned (.agg #[.int .i64 K, .string nm, .slice a L.length c, .int .i64 N, .string un]) ∧ L.length ≤ 3 ∧ nm.size ≤ 1048576 ∧ un.size ≤ 1048576 ∧ (∀ x ∈ L, x.small) ∧ RdExpr w' a L ∧ Below w.heap.size w w'
set_option maxRecDepth 100000 in
set_option maxHeartbeats 3200000 in
theorem drawActOk_any (a : Option Addr) (cap : Nat) (code : List UInt8) (w : World) (hr : Rd w a code) (hn : code.length ≤ 1048576) :
    Calls Tryd.prog 14 #[.slice a code.length cap] w (DrawnAct w) := by
  go_enter Tryd.func14, Tryd.ntmps14
  go_wp2_with fail
  have b1 := below_al w (.cells #[.int .i64 0, .string ⟨#[]⟩, .slice none 0 0, .int .i64 0, .string ⟨#[]⟩] 29)
  have r1 := boxk_new w #[.int .i64 0, .string ⟨#[]⟩, .slice none 0 0, .int .i64 0, .string ⟨#[]⟩] 29
  have z1 : (w.alloc (.cells #[.int .i64 0, .string ⟨#[]⟩, .slice none 0 0, .int .i64 0, .string ⟨#[]⟩] 29)).heap.size = w.heap.size + 1 := by simp
  generalize w.alloc (.cells #[.int .i64 0, .string ⟨#[]⟩, .slice none 0 0, .int .i64 0, .string ⟨#[]⟩] 29) = w0 at b1 r1 z1 ⊢
  have l1 : w.heap.size < w0.heap.size := by omega
  clear z1
  refine (l1New_any w0.heap.size a cap code w0 (hr.below b1).toB hn (Nat.le_refl _)).mono ?_
  rintro e w2 ⟨rfl, hc, g0⟩
  have R2 := hide (show w2.heap[w.heap.size]? = _ from (g0.block _ (by omega) (by simp)).trans r1)
  have B2 : Below w.heap.size w w2 := b1.trans (((Below.refl _ _).grown g0 (Nat.le_refl _) (fun k hk => by cases hk)).mono b1.size)
  have s2 := g0.size
  clear r1 b1 g0
  go_wp2_with fail
  refine (l8Any_any w0.heap.size w0.heap.size _ hc).mono ?_
  rintro e w3 ⟨K, nm, v, L, N, un, rfl, hL, hsn, hsu, hsm, o1, c1, g1⟩
  have R3 := hide (box_grown R2.out g1 (by omega))
  have B3 : Below w.heap.size w w3 := B2.grown g1 B2.size (fun k hk => by cases hk; omega)
  obtain ⟨av, cv, hv, hrd⟩ : ∃ av cv, v = .slice av L.length cv ∧ ∀ w9, w3.grownBy w9 (some w.heap.size) → RdExpr w9 av L := by
    rcases o1.2 with ⟨h, h0⟩ | ⟨g, cp, _, h, _⟩
    · have hl : L = [] := by cases L with | nil => rfl | cons x r => simp at h0
      subst hl
      exact ⟨_, 0, h, fun w9 _ => RdK.nil _ _ _ _⟩
    · refine ⟨_, cp, h, fun w9 gr => ?_⟩
      subst h
      have hgl := (o1.lt g rfl).1
      exact rdOwnExpr (OwnK.of X11.len (by decide) (o1.kept gr (.inr (by simp [Value.ownBlock]; omega))))
  subst hv
  have HRd := hide hrd
  have HSm := hide hsm
  have r0 := boxk_cell R3.out 0 _ rfl
  have r1 := boxk_cell R3.out 1 _ rfl
  have r2 := boxk_cell R3.out 2 _ rfl
  have r3 := boxk_cell R3.out 3 _ rfl
  have r4 := boxk_cell R3.out 4 _ rfl
  have f0 := boxk_frozen R3.out 0
  have f1 := boxk_frozen R3.out 1
  have f2 := boxk_frozen R3.out 2
  have f3 := boxk_frozen R3.out 3
  have f4 := boxk_frozen R3.out 4
  clear hrd hsm o1 c1 g1 R2 B2 hc
  go_wp2
  refine box5_post R3.out (fun w9 h9 gr => ?_)
  clear r0 r1 r2 r3 r4 f0 f1 f2 f3 f4
  have d0 := boxk_cell h9 0 _ rfl
  have d1 := boxk_cell h9 1 _ rfl
  have d2 := boxk_cell h9 2 _ rfl
  have d3 := boxk_cell h9 3 _ rfl
  have d4 := boxk_cell h9 4 _ rfl
  exact bodyPost_ret (v := .agg #[.int .i64 K, .string nm, .slice av L.length cv, .int .i64 N, .string un]) (by simp [results, Tryd.results14, go_sem, d0, d1, d2, d3, d4]) rfl ⟨K, nm, av, cv, L, N, un, rfl, hL, hsn, hsu, HSm.out, HRd.out w9 gr, below_set B3 gr (by omega)⟩
end Go.Proofs.YtaflokfgbmlmaacDoor
