/-
  The contracts of what the laws on stores are asked: some store, with a kind, alone, with a fact.
-/
import Derived.Test.YtaflokfgbmlmaadDoorJDrawSa
namespace Go.Proofs.YtaflokfgbmlmaadDoor
open Go.RowKit
set_option linter.unusedVariables false

theorem WV.drew {w w' : World} {lo n vc q : Nat} {va : Option Addr} {K : List It} (h : WV w lo n va vc K) (g : w.grownBy w' (some q)) (hq : q < lo) : WV w' lo n va vc K :=
  h.hi (fun x h1 h2 => g.block x h2 (fun e => by have e2 := Option.some.inj e; omega))
theorem WV.later {w w' : World} {lo n vc : Nat} {va : Option Addr} {K : List It} (h : WV w lo n va vc K) (hb : Below w.heap.size w w') : WV w' lo n va vc K := h.hi (fun x _ h2 => hb.block x h2)

/-- some store and some kind were drawn -/
def DrawnOK (w : World) (e : Ending) (w' : World) : Prop := ∃ (va : Option Addr) (vc : Nat) (nx : Int) (K : List It) (kind : ByteArray), e = .returned (.tuple #[.agg #[.slice va K.length vc, .int .i64 nx], .string kind]) ∧ K.length ≤ 41 ∧ (∀ x ∈ K.map It.pl, SmP x) ∧ RdI w' va K ∧ Below w.heap.size w w'
set_option maxRecDepth 100000 in
set_option maxHeartbeats 1600000 in
theorem drawOfKind_any (a : Option Addr) (cap : Nat) (code : List UInt8) (w : World) (hr : Rd w a code) (hn : code.length ≤ 1048576) :
    Calls Tryd.prog 26 #[.slice a code.length cap] w (DrawnOK w) := by
  go_enter Tryd.func26, Tryd.ntmps26
  go_wp2_with fail
  have b1 := below_al w (.cells #[.slice none 0 0, .int .i64 0] 29)
  have r1 := boxk_new w #[.slice none 0 0, .int .i64 0] 29
  have z1 : (w.alloc (.cells #[.slice none 0 0, .int .i64 0] 29)).heap.size = w.heap.size + 1 := by simp
  generalize w.alloc (.cells #[.slice none 0 0, .int .i64 0] 29) = w0 at b1 r1 z1 ⊢
  refine (l1New_any w.heap.size a cap code w0 (hr.toB.below b1) hn b1.size).mono ?_
  rintro e w1 ⟨rfl, c1, g1⟩
  rw [z1] at c1 ⊢
  have q1 := c1.lt
  have R1 := hide (show w1.heap[w.heap.size]? = _ from (g1.block _ (by omega) (by simp)).trans r1)
  have B1 : Below w.heap.size w w1 := b1.trans ((((Below.refl _ _).grown g1 (Nat.le_refl _) (fun k hk => by cases hk))).mono b1.size)
  clear r1 b1 g1
  go_wp2_with fail
  refine (l4Any_any w.heap.size (w.heap.size + 1) w1 c1).mono ?_
  rintro e w2 ⟨va, vc, nx, K, rfl, hK, hsm, hwv, c2, g2⟩
  have R2 := hide (box_grown R1.out g2 (by omega))
  have B2 : Below w.heap.size w w2 := B1.grown g2 B1.size (fun k hk => by cases hk; omega)
  have s2 := g2.size
  have HSm := hide hsm
  clear R1 g2 B1 c1 hsm
  go_wp2_with fail
  refine (l1Str_any w.heap.size (w.heap.size + 1) w2.heap.size [⟨#[111, 114, 100, 101, 114]⟩, ⟨#[112, 97, 105, 100]⟩, ⟨#[105, 116, 101, 109]⟩, ⟨#[110, 111, 110, 101]⟩] 4 _ (c2.keep (World.grownBy_alloc w2 _ none) (by simp) (by simp)) (by decide) (by decide) (by have := c2.lt; omega) (cells_strs w2 9 _)).mono ?_
  rintro e w3 ⟨kind, rfl, -, c3, g3⟩
  have R3 := hide (box_grown (box_alloc R2.out _) g3 (by omega))
  have B3 : Below w.heap.size w w3 := (B2.alloc B2.size _).grown g3 (B2.alloc B2.size _).size (fun k hk => by cases hk; omega)
  have HW := hide ((hwv.later (below_al w2 _)).drew g3 (by omega))
  clear R2 g3 B2 c2 hwv
  obtain ⟨r0, r1, rf0, rf1⟩ := box2_cell R3.out
  go_wp2
  refine box2_post R3.out (fun w4 h4 gr => ?_)
  clear r0 r1 rf0 rf1
  obtain ⟨d0, d1, -, -⟩ := box2_cell h4
  exact bodyPost_ret (v := .tuple #[.agg #[.slice va K.length vc, .int .i64 nx], .string kind]) (by simp [results, Tryd.results26, go_sem, d0, d1]) rfl ⟨va, vc, nx, K, kind, rfl, hK, HSm.out, (HW.out.drew gr (by omega)).rd, below_set B3 gr (Nat.le_refl _)⟩

/-- some store was drawn -/
def DrawnSO (w : World) (e : Ending) (w' : World) : Prop := ∃ (va : Option Addr) (vc : Nat) (nx : Int) (K : List It), e = .returned (.agg #[.slice va K.length vc, .int .i64 nx]) ∧ K.length ≤ 41 ∧ (∀ x ∈ K.map It.pl, SmP x) ∧ RdI w' va K ∧ Below w.heap.size w w'
set_option maxRecDepth 100000 in
set_option maxHeartbeats 1600000 in
theorem drawStoreOk_any (a : Option Addr) (cap : Nat) (code : List UInt8) (w : World) (hr : Rd w a code) (hn : code.length ≤ 1048576) :
    Calls Tryd.prog 28 #[.slice a code.length cap] w (DrawnSO w) := by
  go_enter Tryd.func28, Tryd.ntmps28
  go_wp2_with fail
  have b1 := below_al w (.cells #[.slice none 0 0, .int .i64 0] 29)
  have r1 := boxk_new w #[.slice none 0 0, .int .i64 0] 29
  have z1 : (w.alloc (.cells #[.slice none 0 0, .int .i64 0] 29)).heap.size = w.heap.size + 1 := by simp
  generalize w.alloc (.cells #[.slice none 0 0, .int .i64 0] 29) = w0 at b1 r1 z1 ⊢
  refine (l1New_any w.heap.size a cap code w0 (hr.toB.below b1) hn b1.size).mono ?_
  rintro e w1 ⟨rfl, c1, g1⟩
  rw [z1] at c1 ⊢
  have q1 := c1.lt
  have R1 := hide (show w1.heap[w.heap.size]? = _ from (g1.block _ (by omega) (by simp)).trans r1)
  have B1 : Below w.heap.size w w1 := b1.trans ((((Below.refl _ _).grown g1 (Nat.le_refl _) (fun k hk => by cases hk))).mono b1.size)
  clear r1 b1 g1
  go_wp2_with fail
  refine (l4Any_any w.heap.size (w.heap.size + 1) w1 c1).mono ?_
  rintro e w2 ⟨va, vc, nx, K, rfl, hK, hsm, hwv, c2, g2⟩
  have R3 := hide (box_grown R1.out g2 (by omega))
  have B3 : Below w.heap.size w w2 := B1.grown g2 B1.size (fun k hk => by cases hk; omega)
  have s2 := g2.size
  have HSm := hide hsm
  have HW := hide hwv
  clear R1 g2 B1 c1 hsm hwv c2
  obtain ⟨r0, r1, rf0, rf1⟩ := box2_cell R3.out
  go_wp2
  refine box2_post R3.out (fun w4 h4 gr => ?_)
  clear r0 r1 rf0 rf1
  obtain ⟨d0, d1, -, -⟩ := box2_cell h4
  exact bodyPost_ret (v := .agg #[.slice va K.length vc, .int .i64 nx]) (by simp [results, Tryd.results28, go_sem, d0, d1]) rfl ⟨va, vc, nx, K, rfl, hK, HSm.out, (HW.out.drew gr (by omega)).rd, below_set B3 gr (Nat.le_refl _)⟩
end Go.Proofs.YtaflokfgbmlmaadDoor
