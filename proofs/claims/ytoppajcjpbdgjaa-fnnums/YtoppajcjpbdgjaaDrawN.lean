/-
  The contracts of the draws for the laws on numbers and texts.
-/
import Derived.Test.YtoppajcjpbdgjaaDrawB
import Derived.Laws.IdiomStrings
import Derived.Deep.RegionWith
namespace Go.Proofs.Ytoppajcjpbdgjaa
open Go.RowKit
set_option linter.unusedVariables false

theorem grown_of_drew {w w' : World} {row : Option Nat} (h : w.drew.grownBy w' row) : w.grownBy w' row := ⟨h.os, h.tape, h.output, h.size, h.block⟩

/-- a row that was drawn, as a text -/
theorem owns_text {w : World} {base : Nat} {v : Value} {bs : List UInt8} (h : w.ownsRow base 5 1 v bs.length (vals bs)) (hv : v ≠ .slice none 0 0) :
    (convert 22 9 v).run Try.prog w = .ok (.string ⟨bs.toArray⟩) w := by
  rcases h.2 with ⟨h1, _⟩ | ⟨g, cap, cur, rfl, hb, hg, rest⟩
  · exact absurd h1 hv
  · refine run_convert_bytes_back (P := Try.prog) w 22 9 5 ⟨g, 0, none⟩ cap bs Try.underlying22 Try.underlying5 Try.underlying9 (fun j hj => ?_)
    have := h.cellAt j (by omega)
    rw [vals_get hj] at this
    rw [Addr.add_lit, Nat.zero_add, this]
    unfold byteAt
    simp [List.getD, hj]

def numList (x : Int) : List Int := [0, 1, -1, 63, 64, -65, 8192, 1000000000, -1000000000, 1000000001, -9223372036854775808, 9223372036854775807, x]

set_option maxRecDepth 100000 in
set_option maxHeartbeats 1600000 in
theorem drawPutNum_any (a : Option Addr) (cap : Nat) (code : List UInt8) (w : World) (hr : Rd w a code) (hn : code.length ≤ 1048576) :
    Calls Try.prog 8 #[.slice a code.length cap] w fun e w' =>
      ∃ v bs n, e = .returned (.tuple #[v, .int .i64 n]) ∧ bs.length ≤ 9 ∧ w'.ownsRow w.heap.size 5 1 v bs.length (vals bs) ∧ v ≠ .slice none 0 0 ∧ w.grownBy w' none := by
  go_enter Try.func8, Try.ntmps8
  go_wp2_with fail
  refine (l1New_any w.heap.size a cap code w hr.toB hn (Nat.le_refl _)).mono ?_
  rintro e w1 ⟨rfl, c1, g1⟩
  go_wp2_with fail
  refine (l1Some_any w.heap.size w.heap.size w1 c1).mono ?_
  rintro e w2 ⟨v, bs, rfl, hl, ho, hv, c2, g2⟩
  have HV := hide hv
  have gA : w.grownBy w2 none := grown_more g1 g2 (fun j hj => by cases hj; exact Nat.le_refl _)
  have hlt := c1.lt
  clear hv g1 g2 c1
  go_wp2_with fail
  refine (l1Below_any w.heap.size w.heap.size 100000 w2 c2 (by omega) (by omega)).mono ?_
  rintro e w3 ⟨x, rfl, x0, x1, c3, g3⟩
  have ho3 := ho.kept g3 (by
    cases hv2 : Value.ownBlock _ with
    | none => exact .inl rfl
    | some g => right; intro e; have := (ho.lt g hv2).1; cases e; omega)
  have gB : w.grownBy w3 none := grown_more gA g3 (fun j hj => by cases hj; exact Nat.le_refl _)
  clear ho g3 gA c2
  go_wp2_with fail
  refine (l1Int_any w.heap.size w.heap.size w3.heap.size (numList x) 13 _ (c3.keep (World.grownBy_alloc w3 _ none) (by simp) (by simp)) (by simp [numList]) (by simp [numList]) (by have := c3.lt; omega) (cells_lit w3 3 (numList x))).mono ?_
  rintro e w4 ⟨n, rfl, hx, c4, g4⟩
  have ho4 := (ho3.alloc _).kept g4 (by
    cases hv2 : Value.ownBlock _ with
    | none => exact .inl rfl
    | some g => right; intro e; have := (ho3.lt g hv2).1; cases e; omega)
  have gC : w.grownBy w4 none := grown_more (grown_more gB (World.grownBy_alloc w3 _ none) (by simp)) g4 (fun j hj => by cases hj; exact Nat.le_refl _)
  have HO := hide (owns_base ho4 (show w.heap.size ≤ w1.heap.size by omega))
  clear hx c4 g4 c3 ho3 ho4 gB
  go_wp2
  go_ret2
  exact ⟨_, bs, n, rfl, hl, HO.out, HV.out, gC⟩

set_option maxRecDepth 100000 in
set_option maxHeartbeats 1600000 in
theorem drawPutText_any (a : Option Addr) (cap : Nat) (code : List UInt8) (w : World) (hr : Rd w a code) (hn : code.length ≤ 1048576) :
    Calls Try.prog 11 #[.slice a code.length cap] w fun e w' =>
      ∃ v bs s, e = .returned (.tuple #[v, .string s]) ∧ bs.length ≤ 9 ∧ s.size ≤ 9 ∧ w'.ownsRow w.heap.size 5 1 v bs.length (vals bs) ∧ v ≠ .slice none 0 0 ∧ w.grownBy w' none := by
  go_enter Try.func11, Try.ntmps11
  go_wp2_with fail
  refine (l1New_any w.heap.size a cap code w hr.toB hn (Nat.le_refl _)).mono ?_
  rintro e w1 ⟨rfl, c1, g1⟩
  have hlt := c1.lt
  go_wp2_with fail
  go_region_with (first
    | (go_at_call 25; refine (l1Some_any w.heap.size w.heap.size _ ?_).mono ?_; exact c1; rintro e w2 ⟨v, bs, rfl, hl, ho, hv, c2, g2⟩; clear c1)
    | (go_at_call 25; refine (l1Some_any w.heap.size w.heap.size _ ?_).mono ?_; exact c2; rintro e w3 ⟨v', bs', rfl, hl', ho', hv', c3, g3⟩; clear c2; have hcv := owns_text ho' hv'))
  have ho3 := ho.kept g3 (by
    cases hv2 : Value.ownBlock _ with
    | none => exact .inl rfl
    | some g => right; intro e; have h9 := (ho.lt g hv2).1; simp at h9; cases e; omega)
  have gA : w.grownBy w2 none := grown_more g1 (grown_of_drew g2) (fun j hj => by cases hj; exact Nat.le_refl _)
  have gC : w.grownBy w3 none := grown_more gA g3 (fun j hj => by cases hj; exact Nat.le_refl _)
  have HO := hide (owns_base ho3 (show w.heap.size ≤ w1.heap.size by omega))
  have HV := hide hv
  have HS : Hid ((⟨bs'.toArray⟩ : ByteArray).size ≤ 9) := by
    unfold Hid
    show bs'.toArray.size ≤ 9
    simpa using hl'
  clear ho ho3 ho' hv hv' hcv c3 g2 g3 gA g1
  generalize (⟨bs'.toArray⟩ : ByteArray) = tx at HS ⊢
  go_wp2
  go_ret2
  exact ⟨_, bs, tx, rfl, hl, HS.out, HO.out, HV.out, gC⟩
end Go.Proofs.Ytoppajcjpbdgjaa
