/-
  The contracts of the draws of arguments: some, whatever they are, with short texts.
-/
import Derived.Test.YtaflokfgbmlmaacDoorJDrawS
import Derived.Deep.AppendLies
import Derived.Deep.RegionLaw
import Derived.Test.YtaflokfgbmlmaacDoorJoined2
namespace Go.Proofs.YtaflokfgbmlmaacDoor
open Go.RowKit
set_option linter.unusedVariables false

theorem box3_set1 {w : World} {q : Nat} {c0 c1 c2 : Value} {T : TypeId} (h : w.heap[q]? = some (.cells #[c0, c1, c2] T (0, 0))) (u : Value) :
    (w.setCell ⟨q, 1, none⟩ u).heap[q]? = some (.cells #[c0, u, c2] T (0, 0)) ∧ w.grownBy (w.setCell ⟨q, 1, none⟩ u) (some q) := boxk_set h 1 u
theorem src5 (W : World) (x : A5) : ∀ j u, (x.cs)[j]? = some u → (W.alloc (.cells #[.int .i64 x.K, .string x.S, .int .i64 x.V.K, .int .i64 x.V.N, .string x.V.S] 39)).cell? ((⟨W.heap.size, 0, none⟩ : Addr).add j) = some u := by
  intro j u hj
  rw [Addr.add_lit, Nat.zero_add]
  have hb : (W.alloc (.cells #[.int .i64 x.K, .string x.S, .int .i64 x.V.K, .int .i64 x.V.N, .string x.V.S] 39)).heap[W.heap.size]? = some (.cells #[.int .i64 x.K, .string x.S, .int .i64 x.V.K, .int .i64 x.V.N, .string x.V.S] 39 (0, 0)) := by rw [heap_alloc_new]
  rw [cell_of_row _ _ j _ _ (0, 0) hb, ← hj]
  simp [A5.cs]
theorem one5 (x : A5) : ∀ u ∈ x.cs, u.oneCell' = true := by
  intro u hu
  simp only [A5.cs, List.mem_cons, List.not_mem_nil, or_false] at hu
  rcases hu with rfl | rfl | rfl | rfl | rfl <;> rfl
theorem below_grown {w w' : World} {q : Nat} (h : Below w.heap.size w w') : w.grownBy w' (some q) := ⟨h.os, h.tape, h.output, h.size, fun i hi _ => h.block i hi⟩

set_option maxRecDepth 100000 in
set_option maxHeartbeats 800000 in
theorem l6Var_any (s : ByteArray) (w : World) :
    Calls Tryd.prog 109 #[.string s] w fun e w' => e = .returned (.agg #[.int .i64 1, .string s, .int .i64 0, .int .i64 0, .string ⟨#[]⟩]) ∧ Below w.heap.size w w' := by
  go_enter Tryd.func109, Tryd.ntmps109
  go_wp2
  go_returns
  exact ⟨rfl, by go_grown⟩
set_option maxRecDepth 100000 in
set_option maxHeartbeats 800000 in
theorem l6Val_any (v : V3) (w : World) :
    Calls Tryd.prog 107 #[.agg #[.int .i64 v.K, .int .i64 v.N, .string v.S]] w fun e w' => e = .returned (.agg #[.int .i64 2, .string ⟨#[]⟩, .int .i64 v.K, .int .i64 v.N, .string v.S]) ∧ Below w.heap.size w w' := by
  go_enter Tryd.func107, Tryd.ntmps107
  go_wp2
  go_returns
  exact ⟨rfl, by go_grown⟩

/-- some argument was drawn -/
def DrawnA (w : World) (B q : Nat) (e : Ending) (w' : World) : Prop := ∃ x : A5, e = .returned (.agg #[.int .i64 x.K, .string x.S, .int .i64 x.V.K, .int .i64 x.V.N, .string x.V.S]) ∧ x.small ∧ Cur B w' q ∧ w.grownBy w' (some q)
theorem emp_small : (⟨#[]⟩ : ByteArray).size ≤ 1048576 := by decide

set_option maxRecDepth 100000 in
set_option maxHeartbeats 1600000 in
theorem l6Arg_any (B q : Nat) (w : World) (hc : Cur B w q) :
    Calls Tryd.prog 66 #[.pointer (some ⟨q, 0, none⟩)] w (DrawnA w B q) := by
  have hq := hc.lt
  have hB := hc.1
  go_enter Tryd.func66, Tryd.ntmps66
  go_wp2_with fail
  have c0 : Cur B (w.alloc (.cells #[.int .i64 0, .string ⟨#[]⟩, .int .i64 0, .int .i64 0, .string ⟨#[]⟩] 39)) q := hc.keep (World.grownBy_alloc w _ none) (by simp) (by simp)
  have hR := boxk_new w #[.int .i64 0, .string ⟨#[]⟩, .int .i64 0, .int .i64 0, .string ⟨#[]⟩] 39
  have G0 := grown_alloc w (.cells #[.int .i64 0, .string ⟨#[]⟩, .int .i64 0, .int .i64 0, .string ⟨#[]⟩] 39) q
  refine (l1Below_any B q 6 _ c0 (by omega) (by omega)).mono ?_
  rintro e w1 ⟨x, rfl, x0, x1, c1, g1⟩
  have HR := hide (box_grown hR g1 (by omega))
  have G1 : w.grownBy w1 (some q) := grown_trans G0 g1
  have z1 := G1.size
  have l1 := (Array.getElem?_eq_some_iff.1 HR.out).1
  clear g1 hR G0 c0
  by_cases h0 : x = 0
  · subst h0
    have r0 := boxk_cell HR.out 0 _ rfl
    have r1 := boxk_cell HR.out 1 _ rfl
    have r2 := boxk_cell HR.out 2 _ rfl
    have r3 := boxk_cell HR.out 3 _ rfl
    have r4 := boxk_cell HR.out 4 _ rfl
    have f0 := boxk_frozen HR.out 0
    have f1 := boxk_frozen HR.out 1
    have f2 := boxk_frozen HR.out 2
    have f3 := boxk_frozen HR.out 3
    have f4 := boxk_frozen HR.out 4
    go_wp2
    refine box5_post HR.out (fun w3 h3 gr => ?_)
    clear r0 r1 r2 r3 r4 f0 f1 f2 f3 f4
    have a0 := boxk_cell h3 0 _ rfl
    have a1 := boxk_cell h3 1 _ rfl
    have a2 := boxk_cell h3 2 _ rfl
    have a3 := boxk_cell h3 3 _ rfl
    have a4 := boxk_cell h3 4 _ rfl
    refine bodyPost_ret (v := .agg #[.int .i64 3, .string ⟨#[]⟩, .int .i64 0, .int .i64 0, .string ⟨#[]⟩]) (by simp [results, Tryd.results66, go_sem, a0, a1, a2, a3, a4]) rfl ⟨⟨3, ⟨#[]⟩, ⟨0, 0, ⟨#[]⟩⟩⟩, rfl, ⟨emp_small, emp_small⟩, c1.keep gr (by simp; omega) (by intro k hk; cases hk; omega), grown_more G1 gr (by intro k hk; cases hk; omega)⟩
  · have k0 : (x == 0) = false := by simpa using h0
    by_cases h1 : x = 1
    · subst h1
      clear h0 k0
      go_wp2_with fail
      refine (l3Small_any B q _ c1).mono ?_
      rintro e w2 ⟨v, rfl, hv, c2, g2⟩
      have HR2 := hide (box_grown HR.out g2 (by omega))
      have G2 : w.grownBy w2 (some q) := grown_trans G1 g2
      clear g2 HR c1 G1
      go_wp2_with fail
      refine (l6Val_any v _).mono ?_
      rintro e w3 ⟨rfl, hb3⟩
      have HR3 := hide (box_step HR2.out hb3)
      have G3 : w.grownBy w3 (some q) := grown_trans G2 (below_grown hb3)
      have c3 : Cur B w3 q := c2.keep (⟨hb3.os, hb3.tape, hb3.output, hb3.size, fun i hi _ => hb3.block i hi⟩ : w2.grownBy w3 none) (by simp) (by simp)
      clear hb3 HR2 c2 G2
      have r0 := boxk_cell HR3.out 0 _ rfl
      have r1 := boxk_cell HR3.out 1 _ rfl
      have r2 := boxk_cell HR3.out 2 _ rfl
      have r3 := boxk_cell HR3.out 3 _ rfl
      have r4 := boxk_cell HR3.out 4 _ rfl
      have f0 := boxk_frozen HR3.out 0
      have f1 := boxk_frozen HR3.out 1
      have f2 := boxk_frozen HR3.out 2
      have f3 := boxk_frozen HR3.out 3
      have f4 := boxk_frozen HR3.out 4
      go_wp2
      refine box5_post HR3.out (fun w4 h4 gr => ?_)
      clear r0 r1 r2 r3 r4 f0 f1 f2 f3 f4
      have a0 := boxk_cell h4 0 _ rfl
      have a1 := boxk_cell h4 1 _ rfl
      have a2 := boxk_cell h4 2 _ rfl
      have a3 := boxk_cell h4 3 _ rfl
      have a4 := boxk_cell h4 4 _ rfl
      refine bodyPost_ret (v := .agg #[.int .i64 2, .string ⟨#[]⟩, .int .i64 v.K, .int .i64 v.N, .string v.S]) (by simp [results, Tryd.results66, go_sem, a0, a1, a2, a3, a4]) rfl ⟨⟨2, ⟨#[]⟩, v⟩, rfl, ⟨emp_small, by show v.S.size ≤ 1048576; omega⟩, c3.keep gr (by simp; omega) (by intro k hk; cases hk; omega), grown_more G3 gr (by intro k hk; cases hk; omega)⟩
    · have k1 : (x == 1) = false := by simpa using h1
      clear h0 h1
      go_wp2_with fail
      refine (l1Str_any B q w1.heap.size [⟨#[88]⟩, ⟨#[89]⟩, ⟨#[90]⟩, ⟨#[88]⟩] 4 _ (c1.keep (World.grownBy_alloc w1 _ none) (by simp) (by simp)) (by decide) (by decide) (by omega) (cells_strs w1 9 _)).mono ?_
      rintro e w2 ⟨s, rfl, hx, c2, g2⟩
      have HS : Hid (s.size ≤ 1048576) := by
        unfold Hid
        simp only [List.mem_cons, List.not_mem_nil, or_false] at hx
        rcases hx with rfl | rfl | rfl | rfl <;> decide
      have HR2 := hide (box_grown (box_alloc HR.out _) g2 (by omega))
      have G2 : w.grownBy w2 (some q) := grown_trans (grown_trans G1 (grown_alloc w1 _ q)) g2
      clear hx g2 HR c1 G1
      go_wp2_with fail
      refine (l6Var_any s _).mono ?_
      rintro e w3 ⟨rfl, hb3⟩
      have HR3 := hide (box_step HR2.out hb3)
      have G3 : w.grownBy w3 (some q) := grown_trans G2 (below_grown hb3)
      have c3 : Cur B w3 q := c2.keep (⟨hb3.os, hb3.tape, hb3.output, hb3.size, fun i hi _ => hb3.block i hi⟩ : w2.grownBy w3 none) (by simp) (by simp)
      clear hb3 HR2 c2 G2
      have r0 := boxk_cell HR3.out 0 _ rfl
      have r1 := boxk_cell HR3.out 1 _ rfl
      have r2 := boxk_cell HR3.out 2 _ rfl
      have r3 := boxk_cell HR3.out 3 _ rfl
      have r4 := boxk_cell HR3.out 4 _ rfl
      have f0 := boxk_frozen HR3.out 0
      have f1 := boxk_frozen HR3.out 1
      have f2 := boxk_frozen HR3.out 2
      have f3 := boxk_frozen HR3.out 3
      have f4 := boxk_frozen HR3.out 4
      go_wp2
      refine box5_post HR3.out (fun w4 h4 gr => ?_)
      clear r0 r1 r2 r3 r4 f0 f1 f2 f3 f4
      have a0 := boxk_cell h4 0 _ rfl
      have a1 := boxk_cell h4 1 _ rfl
      have a2 := boxk_cell h4 2 _ rfl
      have a3 := boxk_cell h4 3 _ rfl
      have a4 := boxk_cell h4 4 _ rfl
      refine bodyPost_ret (v := .agg #[.int .i64 1, .string s, .int .i64 0, .int .i64 0, .string ⟨#[]⟩]) (by simp [results, Tryd.results66, go_sem, a0, a1, a2, a3, a4]) rfl ⟨⟨1, s, ⟨0, 0, ⟨#[]⟩⟩⟩, rfl, ⟨HS.out, emp_small⟩, c3.keep gr (by simp; omega) (by intro k hk; cases hk; omega), grown_more G3 gr (by intro k hk; cases hk; omega)⟩
end Go.Proofs.YtaflokfgbmlmaacDoor
