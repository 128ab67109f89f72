/-
  The contract of the draw of any pattern: some, whatever it is, with short texts.
-/
import Derived.Test.YtaflokfgbmlmaacDoorJDrawQ
namespace Go.Proofs.YtaflokfgbmlmaacDoor
open Go.RowKit
set_option linter.unusedVariables false

/-- some pattern was drawn -/
def DrawnPk (w : World) (e : Ending) (w' : World) : Prop := ∃ (kd : ByteArray) (nt : Bool) (a : Option Addr) (c : Nat) (L : List A5), e = .returned (.agg #[.string kd, .slice a L.length c, .bool nt]) ∧ L.length ≤ 8 ∧ kd.size ≤ 21 ∧ (∀ x ∈ L, x.small) ∧ RdArg w' a L ∧ Below w.heap.size w w'

set_option maxRecDepth 100000 in
set_option maxHeartbeats 3200000 in
theorem drawPatOk_any (a : Option Addr) (cap : Nat) (code : List UInt8) (w : World) (hr : Rd w a code) (hn : code.length ≤ 1048576) :
    Calls Tryd.prog 25 #[.slice a code.length cap] w (DrawnPk w) := by
  go_enter Tryd.func25, Tryd.ntmps25
  go_wp2_with fail
  have b1 := (Below.refl w.heap.size w).alloc (Nat.le_refl _) (.cells #[.string ⟨#[]⟩, .slice none 0 0, .bool false] 53)
  have r1 := boxk_new w #[.string ⟨#[]⟩, .slice none 0 0, .bool false] 53
  have z1 : (w.alloc (.cells #[.string ⟨#[]⟩, .slice none 0 0, .bool false] 53)).heap.size = w.heap.size + 1 := by simp
  generalize w.alloc (.cells #[.string ⟨#[]⟩, .slice none 0 0, .bool false] 53) = w0 at b1 r1 z1 ⊢
  refine (l1New_any w.heap.size a cap code w0 (hr.toB.below b1) hn b1.size).mono ?_
  rintro e w1 ⟨rfl, c1, g1⟩
  rw [z1] at c1 ⊢
  have q1 := c1.lt
  have R1 := hide (show w1.heap[w.heap.size]? = _ from (g1.block _ (by omega) (by simp)).trans r1)
  have B1 : Below w.heap.size w w1 := b1.trans ((((Below.refl _ _).grown g1 (Nat.le_refl _) (fun k hk => by cases hk))).mono b1.size)
  clear r1 b1 g1
  go_wp2_with fail
  refine (l6Any_any w.heap.size (w.heap.size + 1) w1 c1).mono ?_
  rintro e w2 ⟨kd, nt, v, L, rfl, hL, hkd, hsm, o2, c2, g2⟩
  have R2 := hide (box_grown R1.out g2 (by omega))
  have B2 : Below w.heap.size w w2 := B1.grown g2 B1.size (fun k hk => by cases hk; omega)
  have HSm := hide hsm
  clear R1 g2 B1 c1 c2 hsm
  obtain ⟨av, cv, rfl, -, -, -, -⟩ := rdK_owns A5.len (by decide) o2
  have HO := hide o2
  obtain ⟨r0, r1, r2, rf0, rf1, rf2⟩ := box_cell R2.out
  clear o2
  go_wp2
  refine box_post R2.out (fun w9 h9 gr => ?_)
  clear r0 r1 r2 rf0 rf1 rf2
  obtain ⟨d0, d1, d2, -, -, -⟩ := box_cell h9
  have o9 : w9.ownsRow w1.heap.size 39 5 (.slice av L.length cv) L.length (rowOf A5.cs L) := by
    refine HO.out.kept gr ?_
    cases hv : (Value.slice av L.length cv).ownBlock with
    | none => exact .inl rfl
    | some k =>
      right
      intro e
      have := (HO.out.lt k hv).1
      cases e; omega
  obtain ⟨ax, cx, ex, hrx, -, -, -⟩ := rdK_owns A5.len (by decide) o9
  simp only [Value.slice.injEq] at ex
  obtain ⟨rfl, -, rfl⟩ := ex
  exact bodyPost_ret (v := .agg #[.string kd, .slice av L.length cv, .bool nt]) (by simp [results, Tryd.results25, go_sem, d0, d1, d2]) rfl ⟨kd, nt, av, cv, L, rfl, hL, hkd, HSm.out, hrx, B2.grown gr B2.size (fun k hk => by cases hk; exact Nat.le_refl _)⟩
end Go.Proofs.YtaflokfgbmlmaacDoor
