/-
  Texts of this claim joined into one: Fixed, Eq15, FactSame, IdOfS, ToStore, KeepS, StoreS, ValP.
-/
import Derived.Test.YtakodlfmnedeiabDoorJoined1
import Derived.Laws.StructEq
import Derived.ChangeKeysEq
import Derived.Deep.RegionHeld3
import Derived.Deep.RegionLaw
import Derived.Deep.RegionWith
import Derived.Lib.ItoaLen
import Derived.Lib.AtoiTie
/-
  What fixed and fieldsBeyond answer: a kind and five values, those that lack being zero; and the values beyond five.
-/
namespace Go.Proofs.YtakodlfmnedeiabDoor
open Go.RowKit
set_option linter.unusedVariables false

def zeroV : V3 := ⟨0, 0, ⟨#[]⟩⟩
/-- the first five, those that lack being zero -/
def pad5 (L : List V3) : List V3 := L.take 5 ++ List.replicate (5 - L.length) zeroV
theorem pad5_length (L : List V3) : (pad5 L).length = 5 := by unfold pad5; simp; omega
theorem list5 {L : List V3} (h : L.length = 5) : ∃ a b c d e, L = [a, b, c, d, e] := by
  match L, h with
  | [a, b, c, d, e], _ => exact ⟨a, b, c, d, e, rfl⟩
/-- the cells of a kind and five values -/
def cells16 (kd : ByteArray) (v0 v1 v2 v3 v4 : V3) : Array Value :=
  #[.string kd, .int .i64 v0.K, .int .i64 v0.N, .string v0.S, .int .i64 v1.K, .int .i64 v1.N, .string v1.S, .int .i64 v2.K, .int .i64 v2.N, .string v2.S, .int .i64 v3.K, .int .i64 v3.N, .string v3.S, .int .i64 v4.K, .int .i64 v4.N, .string v4.S]
def zero16 (kd : ByteArray) : List Value := .string kd :: cells3 (List.replicate 5 zeroV)
theorem splice16 (kd : ByteArray) (L : List V3) : splice (zero16 kd) 1 (cells3 (L.take 5)) = .string kd :: cells3 (pad5 L) := by
  have hl := cells3_length (L.take 5)
  unfold splice zero16 pad5
  rw [cells3_append, hl, Nat.add_comm 1, List.take_succ_cons, List.take_zero, List.drop_succ_cons]
  show .string kd :: (cells3 (L.take 5) ++ _) = _
  congr 2
  have e : ∀ n k : Nat, (cells3 (List.replicate n zeroV)).drop (k * 3) = cells3 (List.replicate (n - k) zeroV) := by
    intro n k
    induction k generalizing n with
    | zero => simp
    | succ k ih =>
      cases n with
      | zero => simp [cells3]
      | succ n =>
        have h3 : cells3 (List.replicate (n + 1) zeroV) = .int .i64 0 :: .int .i64 0 :: .string ⟨#[]⟩ :: cells3 (List.replicate n zeroV) := by simp [List.replicate_succ, cells3, zeroV]
        rw [h3, show (k + 1) * 3 = k * 3 + 1 + 1 + 1 by omega, List.drop_succ_cons, List.drop_succ_cons, List.drop_succ_cons, ih]
        congr 2; omega
  rw [e, List.length_take]
  congr 2; omega
theorem one3 {L : List V3} : ∀ v ∈ cells3 L, v.oneCell' = true := by
  intro v hv
  obtain ⟨u, _, hu⟩ := List.mem_flatMap.1 hv
  simp only [List.mem_cons, List.not_mem_nil, or_false] at hu
  rcases hu with rfl | rfl | rfl <;> rfl
theorem src3 {w : World} {p : Addr} {L : List V3} (hr : RdV w (some p) L) (m : Nat) : ∀ j v, (cells3 (L.take m))[j]? = some v → w.cell? (p.add j) = some v := by
  intro j v hj
  have hlt : j < (cells3 (L.take m)).length := (List.getElem?_eq_some_iff.1 hj).1
  rw [cells3_length] at hlt
  obtain ⟨i, r, rfl, hr3⟩ : ∃ i r, j = i * 3 + r ∧ r < 3 := ⟨j / 3, j % 3, by omega, by omega⟩
  have hi : i < (L.take m).length := by omega
  have hi2 : i < L.length := by simp at hi; omega
  obtain ⟨g0, g1, g2⟩ := cells3_get (L.take m) i hi
  have ev : vAt (L.take m) i = vAt L i := by rw [vAt_in hi, vAt_in hi2]; simp
  rw [ev] at g0 g1 g2
  obtain ⟨b, off, e, h0, h1, h2⟩ := hr i hi2
  simp only [Option.some.injEq] at e
  subst e
  rw [Addr.add_lit]
  match r, hr3 with
  | 0, _ => rw [Nat.add_zero, g0] at hj; rw [Nat.add_zero, h0]; exact hj
  | 1, _ => rw [g1] at hj; rw [← Nat.add_assoc, h1]; exact hj
  | 2, _ => rw [g2] at hj; rw [← Nat.add_assoc, h2]; exact hj

def setAll (w : World) (q : Nat) : Nat → List Value → World
  | _, [] => w
  | i, v :: r => setAll (w.setCell ⟨q, i, none⟩ v) q (i + 1) r
theorem setAll_heap (q : Nat) (T : TypeId) : ∀ (vs pre : List Value) (w : World) (rest : List Value), w.heap[q]? = some (.cells (pre ++ rest).toArray T (0, 0)) → rest.length = vs.length →
    (setAll w q pre.length vs).heap[q]? = some (.cells (pre ++ vs).toArray T (0, 0)) ∧ w.grownBy (setAll w q pre.length vs) (some q)
  | [], pre, w, rest, h, hl => by
    obtain rfl : rest = [] := List.eq_nil_of_length_eq_zero (by simpa using hl)
    exact ⟨h, ⟨rfl, rfl, rfl, Nat.le_refl _, fun _ _ _ => rfl⟩⟩
  | v :: vs, pre, w, [], h, hl => by simp at hl
  | v :: vs, pre, w, x :: rest, h, hl => by
    have h1 : (w.setCell ⟨q, pre.length, none⟩ v).heap[q]? = some (.cells ((pre ++ [v]) ++ rest).toArray T (0, 0)) := by
      rw [heap_setCell_same w q pre.length _ T v h]
      simp
    have ih := setAll_heap q T vs (pre ++ [v]) (w.setCell ⟨q, pre.length, none⟩ v) rest h1 (by simpa using hl)
    rw [List.length_append, List.length_cons, List.length_nil, List.append_assoc] at ih
    refine ⟨ih.1, ?_⟩
    obtain ⟨g1, g2, g3, g4, g5⟩ := ih.2
    exact ⟨g1, g2, g3, Nat.le_trans (by simp [World.setCell]) g4, fun k hk hne => (g5 k (by simpa [World.setCell] using hk) hne).trans (heap_setCell_other w ⟨q, pre.length, none⟩ k v (fun e => hne (by rw [e])))⟩

theorem cells16_get {w : World} {q : Nat} {T : TypeId} {kd : ByteArray} {v0 v1 v2 v3 v4 : V3} (h : w.heap[q]? = some (.cells (cells16 kd v0 v1 v2 v3 v4) T (0, 0))) :
    w.cell? ⟨q, 0, none⟩ = some (.string kd) ∧ w.cell? ⟨q, 1, none⟩ = some (.int .i64 v0.K) ∧ w.cell? ⟨q, 2, none⟩ = some (.int .i64 v0.N) ∧ w.cell? ⟨q, 3, none⟩ = some (.string v0.S) ∧ w.cell? ⟨q, 4, none⟩ = some (.int .i64 v1.K) ∧ w.cell? ⟨q, 5, none⟩ = some (.int .i64 v1.N) ∧ w.cell? ⟨q, 6, none⟩ = some (.string v1.S) ∧ w.cell? ⟨q, 7, none⟩ = some (.int .i64 v2.K) ∧ w.cell? ⟨q, 8, none⟩ = some (.int .i64 v2.N) ∧ w.cell? ⟨q, 9, none⟩ = some (.string v2.S) ∧ w.cell? ⟨q, 10, none⟩ = some (.int .i64 v3.K) ∧ w.cell? ⟨q, 11, none⟩ = some (.int .i64 v3.N) ∧ w.cell? ⟨q, 12, none⟩ = some (.string v3.S) ∧ w.cell? ⟨q, 13, none⟩ = some (.int .i64 v4.K) ∧ w.cell? ⟨q, 14, none⟩ = some (.int .i64 v4.N) ∧ w.cell? ⟨q, 15, none⟩ = some (.string v4.S) := by
  refine ⟨?_, ?_, ?_, ?_, ?_, ?_, ?_, ?_, ?_, ?_, ?_, ?_, ?_, ?_, ?_, ?_⟩
  · rw [cell_of_row w q 0 _ T (0, 0) h]; rfl
  · rw [cell_of_row w q 1 _ T (0, 0) h]; rfl
  · rw [cell_of_row w q 2 _ T (0, 0) h]; rfl
  · rw [cell_of_row w q 3 _ T (0, 0) h]; rfl
  · rw [cell_of_row w q 4 _ T (0, 0) h]; rfl
  · rw [cell_of_row w q 5 _ T (0, 0) h]; rfl
  · rw [cell_of_row w q 6 _ T (0, 0) h]; rfl
  · rw [cell_of_row w q 7 _ T (0, 0) h]; rfl
  · rw [cell_of_row w q 8 _ T (0, 0) h]; rfl
  · rw [cell_of_row w q 9 _ T (0, 0) h]; rfl
  · rw [cell_of_row w q 10 _ T (0, 0) h]; rfl
  · rw [cell_of_row w q 11 _ T (0, 0) h]; rfl
  · rw [cell_of_row w q 12 _ T (0, 0) h]; rfl
  · rw [cell_of_row w q 13 _ T (0, 0) h]; rfl
  · rw [cell_of_row w q 14 _ T (0, 0) h]; rfl
  · rw [cell_of_row w q 15 _ T (0, 0) h]; rfl
theorem cells16_free {w : World} {q : Nat} {T : TypeId} {kd : ByteArray} {v0 v1 v2 v3 v4 : V3} (h : w.heap[q]? = some (.cells (cells16 kd v0 v1 v2 v3 v4) T (0, 0))) :
    w.frozen? ⟨q, 0, none⟩ = false ∧ w.frozen? ⟨q, 1, none⟩ = false ∧ w.frozen? ⟨q, 2, none⟩ = false ∧ w.frozen? ⟨q, 3, none⟩ = false ∧ w.frozen? ⟨q, 4, none⟩ = false ∧ w.frozen? ⟨q, 5, none⟩ = false ∧ w.frozen? ⟨q, 6, none⟩ = false ∧ w.frozen? ⟨q, 7, none⟩ = false ∧ w.frozen? ⟨q, 8, none⟩ = false ∧ w.frozen? ⟨q, 9, none⟩ = false ∧ w.frozen? ⟨q, 10, none⟩ = false ∧ w.frozen? ⟨q, 11, none⟩ = false ∧ w.frozen? ⟨q, 12, none⟩ = false ∧ w.frozen? ⟨q, 13, none⟩ = false ∧ w.frozen? ⟨q, 14, none⟩ = false ∧ w.frozen? ⟨q, 15, none⟩ = false :=
  ⟨frozen_of_row w q 0 _ T h, frozen_of_row w q 1 _ T h, frozen_of_row w q 2 _ T h, frozen_of_row w q 3 _ T h, frozen_of_row w q 4 _ T h, frozen_of_row w q 5 _ T h, frozen_of_row w q 6 _ T h, frozen_of_row w q 7 _ T h, frozen_of_row w q 8 _ T h, frozen_of_row w q 9 _ T h, frozen_of_row w q 10 _ T h, frozen_of_row w q 11 _ T h, frozen_of_row w q 12 _ T h, frozen_of_row w q 13 _ T h, frozen_of_row w q 14 _ T h, frozen_of_row w q 15 _ T h⟩
theorem cells16_list (kd : ByteArray) (v0 v1 v2 v3 v4 : V3) : (Value.string kd :: cells3 [v0, v1, v2, v3, v4]).toArray = cells16 kd v0 v1 v2 v3 v4 := by simp [cells3, cells16]

theorem Tryd.infoV : (Tryd.prog.info? 71).map (·.size) = some 3 := by kernel_rfl

set_option maxRecDepth 100000 in
set_option maxHeartbeats 3200000 in
theorem fixed_any (kd : ByteArray) (a : Option Addr) (cap : Nat) (L : List V3) (v0 v1 v2 v3 v4 : V3) (w : World) (hr : RdV w a L) (hn : L.length ≤ 1048580) (hp : pad5 L = [v0, v1, v2, v3, v4]) :
    Calls Tryd.prog 67 #[.agg #[.string kd, .slice a L.length cap]] w fun e w' =>
      e = .returned (.agg (cells16 kd v0 v1 v2 v3 v4)) ∧ Below w.heap.size w w' := by
  have b0 := below_al w (.cells #[.string kd, .slice a L.length cap] 29)
  have b1 := b0.alloc b0.size (.cells #[.string ⟨#[]⟩, .int .i64 0, .int .i64 0, .string ⟨#[]⟩, .int .i64 0, .int .i64 0, .string ⟨#[]⟩, .int .i64 0, .int .i64 0, .string ⟨#[]⟩, .int .i64 0, .int .i64 0, .string ⟨#[]⟩, .int .i64 0, .int .i64 0, .string ⟨#[]⟩] 104)
  have b2 := b1.alloc b1.size (.cells #[.string kd, .int .i64 0, .int .i64 0, .string ⟨#[]⟩, .int .i64 0, .int .i64 0, .string ⟨#[]⟩, .int .i64 0, .int .i64 0, .string ⟨#[]⟩, .int .i64 0, .int .i64 0, .string ⟨#[]⟩, .int .i64 0, .int .i64 0, .string ⟨#[]⟩] 104)
  have hX := box_old (box_old (box2_new w (.string kd) (.slice a L.length cap) 29) (by simp) (.cells #[.string ⟨#[]⟩, .int .i64 0, .int .i64 0, .string ⟨#[]⟩, .int .i64 0, .int .i64 0, .string ⟨#[]⟩, .int .i64 0, .int .i64 0, .string ⟨#[]⟩, .int .i64 0, .int .i64 0, .string ⟨#[]⟩, .int .i64 0, .int .i64 0, .string ⟨#[]⟩] 104)) (by simp; omega) (.cells #[.string kd, .int .i64 0, .int .i64 0, .string ⟨#[]⟩, .int .i64 0, .int .i64 0, .string ⟨#[]⟩, .int .i64 0, .int .i64 0, .string ⟨#[]⟩, .int .i64 0, .int .i64 0, .string ⟨#[]⟩, .int .i64 0, .int .i64 0, .string ⟨#[]⟩] 104)
  have hR := box_old (heap_alloc_new (w.alloc (.cells #[.string kd, .slice a L.length cap] 29)) (.cells #[.string ⟨#[]⟩, .int .i64 0, .int .i64 0, .string ⟨#[]⟩, .int .i64 0, .int .i64 0, .string ⟨#[]⟩, .int .i64 0, .int .i64 0, .string ⟨#[]⟩, .int .i64 0, .int .i64 0, .string ⟨#[]⟩, .int .i64 0, .int .i64 0, .string ⟨#[]⟩] 104)) (by simp) (.cells #[.string kd, .int .i64 0, .int .i64 0, .string ⟨#[]⟩, .int .i64 0, .int .i64 0, .string ⟨#[]⟩, .int .i64 0, .int .i64 0, .string ⟨#[]⟩, .int .i64 0, .int .i64 0, .string ⟨#[]⟩, .int .i64 0, .int .i64 0, .string ⟨#[]⟩] 104)
  have hG := heap_alloc_new ((w.alloc (.cells #[.string kd, .slice a L.length cap] 29)).alloc (.cells #[.string ⟨#[]⟩, .int .i64 0, .int .i64 0, .string ⟨#[]⟩, .int .i64 0, .int .i64 0, .string ⟨#[]⟩, .int .i64 0, .int .i64 0, .string ⟨#[]⟩, .int .i64 0, .int .i64 0, .string ⟨#[]⟩, .int .i64 0, .int .i64 0, .string ⟨#[]⟩] 104)) (.cells #[.string kd, .int .i64 0, .int .i64 0, .string ⟨#[]⟩, .int .i64 0, .int .i64 0, .string ⟨#[]⟩, .int .i64 0, .int .i64 0, .string ⟨#[]⟩, .int .i64 0, .int .i64 0, .string ⟨#[]⟩, .int .i64 0, .int .i64 0, .string ⟨#[]⟩] 104)
  have hr2 := hr.below b2
  simp only [World.size_alloc] at hR hG
  clear b0 b1 hr
  go_enter Tryd.func67, Tryd.ntmps67
  go_wp2_with fail
  generalize ((w.alloc (.cells #[.string kd, .slice a L.length cap] 29)).alloc (.cells #[.string ⟨#[]⟩, .int .i64 0, .int .i64 0, .string ⟨#[]⟩, .int .i64 0, .int .i64 0, .string ⟨#[]⟩, .int .i64 0, .int .i64 0, .string ⟨#[]⟩, .int .i64 0, .int .i64 0, .string ⟨#[]⟩, .int .i64 0, .int .i64 0, .string ⟨#[]⟩] 104)).alloc (.cells #[.string kd, .int .i64 0, .int .i64 0, .string ⟨#[]⟩, .int .i64 0, .int .i64 0, .string ⟨#[]⟩, .int .i64 0, .int .i64 0, .string ⟨#[]⟩, .int .i64 0, .int .i64 0, .string ⟨#[]⟩, .int .i64 0, .int .i64 0, .string ⟨#[]⟩] 104) = w3 at hX hR hG hr2 b2 ⊢
  have HX := hide hX
  have HR := hide (show w3.heap[w.heap.size + 1]? = some (.cells (cells16 ⟨#[]⟩ zeroV zeroV zeroV zeroV zeroV) 104 (0, 0)) from hR)
  have HG := hide (show w3.heap[w.heap.size + 1 + 1]? = some (.cells (zero16 kd).toArray 104 (0, 0)) from hG)
  have hz : w.heap.size + 1 + 1 < w3.heap.size := (Array.getElem?_eq_some_iff.1 hG).1
  clear hX hR hG
  obtain ⟨x0, x1, -, -⟩ := box2_cell HX.out
  obtain ⟨g0, g1, -⟩ := cells16_get (show w3.heap[w.heap.size + 1 + 1]? = some (.cells (cells16 kd zeroV zeroV zeroV zeroV zeroV) 104 (0, 0)) from HG.out)
  have h1 : (cells3 (L.take 5)).length = Nat.min L.length 5 * 3 := by rw [cells3_length, List.length_take, Nat.min_comm]
  have h2 : 0 < (cells3 (L.take 5)).length → ∃ ad, a = some ad ∧ ∀ j v, (cells3 (L.take 5))[j]? = some v → w3.drew.cell? (ad.add j) = some v := by
    intro hpos
    rw [cells3_length, List.length_take] at hpos
    obtain ⟨b, off, e, _⟩ := hr2.open (by omega)
    refine ⟨⟨b, off, none⟩, e, fun j v hj => ?_⟩
    rw [e] at hr2
    exact src3 hr2 5 j v hj
  have h3 : 1 + (cells3 (L.take 5)).length ≤ (zero16 kd).length := by
    rw [cells3_length, List.length_take]
    show _ ≤ (Value.string kd :: cells3 (List.replicate 5 zeroV)).length
    rw [List.length_cons, cells3_length, List.length_replicate]; omega
  have H1 := hide h1
  have H2 := hide h2
  have H3 := hide h3
  clear h1 h2 h3
  go_region_law (refine step_copy3 rfl (.tmp 8) (.tmp 10) 27 27 rfl 71 Tryd.underlying27 Tryd.infoV a 5 5 L.length cap (w.heap.size + 1 + 1) 1 (by simp [Act.eval]) (by simp [Act.eval]) (zero16 kd) 104 HG.out (cells3 (L.take 5)) H1.out H2.out H3.out one3 ?_; intro w4 HG4 HW4)
  all_goals
    have HG5 : Hid (w4.heap[w.heap.size + 1 + 1]? = some (.cells (cells16 kd v0 v1 v2 v3 v4) 104 (0, 0))) := by
      have := HG4.out
      rw [splice16, hp, cells16_list] at this
      exact this
    have HR4 := hide (box_gr (w := w3.drew) HR.out HW4.out (by omega))
    have hB4 : Below w.heap.size w w4 := b2.drew.grown HW4.out b2.size (fun k hk => by cases hk; omega)
    clear HG4 HW4 HX HR HG H1 H2 H3 x0 x1 g0 g1 b2 hr2
    obtain ⟨g0, g1, g2, g3, g4, g5, g6, g7, g8, g9, g10, g11, g12, g13, g14, g15⟩ := cells16_get HG5.out
    obtain ⟨r0, r1, r2, r3, r4, r5, r6, r7, r8, r9, r10, r11, r12, r13, r14, r15⟩ := cells16_get HR4.out
    obtain ⟨f0, f1, f2, f3, f4, f5, f6, f7, f8, f9, f10, f11, f12, f13, f14, f15⟩ := cells16_free HR4.out
    go_wp2
    have h9 := setAll_heap (w.heap.size + 1) 104 [.string kd, .int .i64 v0.K, .int .i64 v0.N, .string v0.S, .int .i64 v1.K, .int .i64 v1.N, .string v1.S, .int .i64 v2.K, .int .i64 v2.N, .string v2.S, .int .i64 v3.K, .int .i64 v3.N, .string v3.S, .int .i64 v4.K, .int .i64 v4.N, .string v4.S] [] w4 (cells16 ⟨#[]⟩ zeroV zeroV zeroV zeroV zeroV).toList HR4.out rfl
    refine (show bodyPost _ _ _ _ _ (setAll w4 (w.heap.size + 1) 0 [.string kd, .int .i64 v0.K, .int .i64 v0.N, .string v0.S, .int .i64 v1.K, .int .i64 v1.N, .string v1.S, .int .i64 v2.K, .int .i64 v2.N, .string v2.S, .int .i64 v3.K, .int .i64 v3.N, .string v3.S, .int .i64 v4.K, .int .i64 v4.N, .string v4.S]) from ?_)
    generalize setAll w4 (w.heap.size + 1) 0 [.string kd, .int .i64 v0.K, .int .i64 v0.N, .string v0.S, .int .i64 v1.K, .int .i64 v1.N, .string v1.S, .int .i64 v2.K, .int .i64 v2.N, .string v2.S, .int .i64 v3.K, .int .i64 v3.N, .string v3.S, .int .i64 v4.K, .int .i64 v4.N, .string v4.S] = w5 at h9 ⊢
    obtain ⟨h9, gr⟩ := h9
    clear g0 g1 g2 g3 g4 g5 g6 g7 g8 g9 g10 g11 g12 g13 g14 g15 r0 r1 r2 r3 r4 r5 r6 r7 r8 r9 r10 r11 r12 r13 r14 r15 f0 f1 f2 f3 f4 f5 f6 f7 f8 f9 f10 f11 f12 f13 f14 f15
    obtain ⟨c0, c1, c2, c3, c4, c5, c6, c7, c8, c9, c10, c11, c12, c13, c14, c15⟩ := cells16_get (show w5.heap[w.heap.size + 1]? = some (.cells (cells16 kd v0 v1 v2 v3 v4) 104 (0, 0)) from h9)
    exact bodyPost_ret (v := .agg (cells16 kd v0 v1 v2 v3 v4)) (by simp [results, Tryd.results67, go_sem, c0, c1, c2, c3, c4, c5, c6, c7, c8, c9, c10, c11, c12, c13, c14, c15, cells16]) rfl ⟨rfl, below_set hB4 gr (by omega)⟩
end Go.Proofs.YtakodlfmnedeiabDoor
/-
  Five values held against five: the same just where each is.
-/
namespace Go.Proofs.YtakodlfmnedeiabDoor
open Go.RowKit
set_option linter.unusedVariables false
set_option maxRecDepth 100000

theorem eqV (v u : V3) (w : World) : (Op.equalIn 9998 71 (.agg #[.int .i64 v.K, .int .i64 v.N, .string v.S]) (.agg #[.int .i64 u.K, .int .i64 u.N, .string u.S])).run Tryd.prog w = .ok (decide (v = u)) w := by
  rcases v3_cases v u with rfl | ⟨hne, hv⟩
  · have k1 : (v.K == v.K) = true := by simp
    have k2 : (v.N == v.N) = true := by simp
    have k3 : (v.S.toList == v.S.toList) = true := by simp
    rw [decide_eq_true rfl]
    go_simp
  · rw [decide_eq_false hne]
    clear hne
    rcases hv with k1 | ⟨k1, k2⟩ | ⟨k1, k2, k3⟩ <;> go_simp
theorem part0 (v0 v1 v2 v3 v4 : V3) (w : World) : (part 71 #[.int .i64 v0.K, .int .i64 v0.N, .string v0.S, .int .i64 v1.K, .int .i64 v1.N, .string v1.S, .int .i64 v2.K, .int .i64 v2.N, .string v2.S, .int .i64 v3.K, .int .i64 v3.N, .string v3.S, .int .i64 v4.K, .int .i64 v4.N, .string v4.S] (0 * 3)).run Tryd.prog w = .ok (.agg #[.int .i64 v0.K, .int .i64 v0.N, .string v0.S]) w := by go_simp
theorem part1 (v0 v1 v2 v3 v4 : V3) (w : World) : (part 71 #[.int .i64 v0.K, .int .i64 v0.N, .string v0.S, .int .i64 v1.K, .int .i64 v1.N, .string v1.S, .int .i64 v2.K, .int .i64 v2.N, .string v2.S, .int .i64 v3.K, .int .i64 v3.N, .string v3.S, .int .i64 v4.K, .int .i64 v4.N, .string v4.S] (1 * 3)).run Tryd.prog w = .ok (.agg #[.int .i64 v1.K, .int .i64 v1.N, .string v1.S]) w := by go_simp
theorem part2 (v0 v1 v2 v3 v4 : V3) (w : World) : (part 71 #[.int .i64 v0.K, .int .i64 v0.N, .string v0.S, .int .i64 v1.K, .int .i64 v1.N, .string v1.S, .int .i64 v2.K, .int .i64 v2.N, .string v2.S, .int .i64 v3.K, .int .i64 v3.N, .string v3.S, .int .i64 v4.K, .int .i64 v4.N, .string v4.S] (2 * 3)).run Tryd.prog w = .ok (.agg #[.int .i64 v2.K, .int .i64 v2.N, .string v2.S]) w := by go_simp
theorem part3 (v0 v1 v2 v3 v4 : V3) (w : World) : (part 71 #[.int .i64 v0.K, .int .i64 v0.N, .string v0.S, .int .i64 v1.K, .int .i64 v1.N, .string v1.S, .int .i64 v2.K, .int .i64 v2.N, .string v2.S, .int .i64 v3.K, .int .i64 v3.N, .string v3.S, .int .i64 v4.K, .int .i64 v4.N, .string v4.S] (3 * 3)).run Tryd.prog w = .ok (.agg #[.int .i64 v3.K, .int .i64 v3.N, .string v3.S]) w := by go_simp
theorem part4 (v0 v1 v2 v3 v4 : V3) (w : World) : (part 71 #[.int .i64 v0.K, .int .i64 v0.N, .string v0.S, .int .i64 v1.K, .int .i64 v1.N, .string v1.S, .int .i64 v2.K, .int .i64 v2.N, .string v2.S, .int .i64 v3.K, .int .i64 v3.N, .string v3.S, .int .i64 v4.K, .int .i64 v4.N, .string v4.S] (4 * 3)).run Tryd.prog w = .ok (.agg #[.int .i64 v4.K, .int .i64 v4.N, .string v4.S]) w := by go_simp
theorem same5 (v0 v1 v2 v3 v4 u0 u1 u2 u3 u4 : V3) : decide ([v0, v1, v2, v3, v4] = [u0, u1, u2, u3, u4]) = (decide (v0 = u0) && (decide (v1 = u1) && (decide (v2 = u2) && (decide (v3 = u3) && decide (v4 = u4))))) := by
  simp [Bool.decide_and]
theorem eq15 (v0 v1 v2 v3 v4 u0 u1 u2 u3 u4 : V3) (w : World) :
    (Op.equalIn 9999 102 (.agg #[.int .i64 v0.K, .int .i64 v0.N, .string v0.S, .int .i64 v1.K, .int .i64 v1.N, .string v1.S, .int .i64 v2.K, .int .i64 v2.N, .string v2.S, .int .i64 v3.K, .int .i64 v3.N, .string v3.S, .int .i64 v4.K, .int .i64 v4.N, .string v4.S]) (.agg #[.int .i64 u0.K, .int .i64 u0.N, .string u0.S, .int .i64 u1.K, .int .i64 u1.N, .string u1.S, .int .i64 u2.K, .int .i64 u2.N, .string u2.S, .int .i64 u3.K, .int .i64 u3.N, .string u3.S, .int .i64 u4.K, .int .i64 u4.N, .string u4.S])).run Tryd.prog w = .ok (decide ([v0, v1, v2, v3, v4] = [u0, u1, u2, u3, u4])) w := by
  obtain ⟨i0, hi, -, -, -⟩ := info_parts Tryd.info71
  rw [show (9999 : Nat) = 9998 + 1 from rfl, run_equalIn_array w 9998 _ _ Tryd.underlying102 hi, show Tryd.prog.cellsOf 71 = 3 by kernel_rfl, show List.range 5 = [0, 1, 2, 3, 4] from rfl, same5]
  simp only [Op.eqItems, Sem.run_bind, part0, eqV, Result.andThen_ok]
  cases decide (v0 = u0) <;> simp only [Bool.not_false, Bool.not_true, if_true, Bool.false_eq_true, if_false, Sem.run_pure, Bool.false_and, Bool.true_and, Sem.run_bind, part1, eqV, Result.andThen_ok]
  cases decide (v1 = u1) <;> simp only [Bool.not_false, Bool.not_true, if_true, Bool.false_eq_true, if_false, Sem.run_pure, Bool.false_and, Bool.true_and, Sem.run_bind, part2, eqV, Result.andThen_ok]
  cases decide (v2 = u2) <;> simp only [Bool.not_false, Bool.not_true, if_true, Bool.false_eq_true, if_false, Sem.run_pure, Bool.false_and, Bool.true_and, Sem.run_bind, part3, eqV, Result.andThen_ok]
  cases decide (v3 = u3) <;> simp only [Bool.not_false, Bool.not_true, if_true, Bool.false_eq_true, if_false, Sem.run_pure, Bool.false_and, Bool.true_and, Sem.run_bind, part4, eqV, Result.andThen_ok]
  cases decide (v4 = u4) <;> simp only [Bool.not_false, Bool.not_true, if_true, Bool.false_eq_true, if_false, Sem.run_pure]
end Go.Proofs.YtakodlfmnedeiabDoor
/-
  What the sameness of facts answers, the model's and the tested one alike: sameF.
-/
namespace Go.Proofs.YtakodlfmnedeiabDoor
open Go.RowKit
set_option linter.unusedVariables false

theorem below_dn {w u : World} {n : Nat} (k : Below (w.drewN n).heap.size (w.drewN n) u) : Below w.heap.size w u :=
  (show Below w.heap.size w (w.drewN n) from ⟨rfl, rfl, rfl, Nat.le_refl _, fun _ _ => rfl⟩).trans k

set_option maxRecDepth 100000 in
set_option maxHeartbeats 1600000 in
theorem sameVals_any (a b : Option Addr) (ca cb : Nat) (L M : List V3) (w : World) (hr : RdV w a L) (hq : RdV w b M) (hn : L.length ≤ 1048580) (hm : M.length ≤ 1048580) :
    Calls Tryd.prog 115 #[.slice a L.length ca, .slice b M.length cb] w fun e w' =>
      e = .returned (.bool (decide (L = M))) ∧ Below w.heap.size w w' := by
  by_cases hlm : L.length = M.length
  · obtain ⟨n, hN⟩ : ∃ n, n = L.length := ⟨_, rfl⟩
    rw [← hlm, ← hN]
    rw [← hN] at hn
    have HN := hide hN
    have HM := hide (hN.trans hlm)
    clear hN hlm hm
    have h2 : ((n : Int) != (n : Int)) = false := by simp
    go_enter Tryd.func115, Tryd.ntmps115
    go_wp2
    go_loopw [5] (fun i wr => ∃ (k nd : Nat), k ≤ n ∧ i = .int .i64 k ∧ wr = w.drewN nd ∧ (∀ j, j < k → vAt L j = vAt M j)) (fun i _ => n - (intOf i).toNat)
    case atStart => exact ⟨0, 0, Nat.zero_le _, rfl, rfl, fun j hj => absurd hj (Nat.not_lt_zero _)⟩
    case round =>
      obtain ⟨k, nd, hk, rfl, rfl, hall⟩ := hrel
      have HA := hide hall
      clear hall
      by_cases hlt : k < n
      · obtain ⟨b1, o1, e1, -, hc1⟩ := hr.open (by rw [← HN.out]; omega)
        obtain ⟨b2, o2, e2, -, hc2⟩ := hq.open (by rw [← HM.out]; omega)
        obtain ⟨c0, c1, c2⟩ := hc1 k (by rw [← HN.out]; exact hlt)
        obtain ⟨d0, d1, d2⟩ := hc2 k (by rw [← HM.out]; exact hlt)
        have l1 : (k : Int) < (n : Int) := by omega
        clear hc1 hc2
        subst e1 e2
        rcases v3_cases (vAt L k) (vAt M k) with hv | ⟨hne, hv⟩
        · have HV := hide hv
          rw [← hv] at d0 d1 d2
          clear hv
          have k1 : ((vAt L k).K == (vAt L k).K) = true := by simp
          have k2 : ((vAt L k).N == (vAt L k).N) = true := by simp
          have k3 : ((vAt L k).S.toList == (vAt L k).S.toList) = true := by simp
          go_wp2
          go_quiet (fail)
          go_wp2
          go_roundw
          case rel => exact ⟨k + 1, _, by omega, by go_num, rfl, fun j hj => by
            by_cases hjk : j = k
            · rw [hjk]; exact HV.out
            · exact HA.out j (by omega)⟩
          case measure => simp [intOf]; omega
        · have HE : Hid (decide (L = M) = false) := decide_eq_false (ne_of_at hne)
          clear hne
          rcases hv with k1 | ⟨k1, k2⟩ | ⟨k1, k2, k3⟩
          all_goals
            go_wp2
            go_quiet (fail)
            go_wp2
            go_ret
            exact ⟨ret_bool HE.out.symm, below_dn (below_dn (Below.refl _ _))⟩
      · have HE : Hid (decide (L = M) = true) := decide_eq_true (eq_of_at (HN.out.symm.trans HM.out) (fun j hj => HA.out j (by rw [← HN.out] at hj; omega)))
        go_wp2
        go_ret
        exact ⟨ret_bool HE.out.symm, below_dn (Below.refl _ _)⟩
  · have HE : Hid (decide (L = M) = false) := decide_eq_false (fun e => hlm (by rw [e]))
    have h2 : ((L.length : Int) != (M.length : Int)) = true := by simp; omega
    go_enter Tryd.func115, Tryd.ntmps115
    go_wp2
    go_ret
    exact ⟨ret_bool HE.out.symm, Below.refl _ _⟩

set_option maxRecDepth 100000 in
set_option maxHeartbeats 1600000 in
theorem equalVals_any (a b : Option Addr) (ca cb : Nat) (L M : List V3) (w : World) (hr : RdV w a L) (hq : RdV w b M) (hn : L.length ≤ 1048580) (hm : M.length ≤ 1048580) :
    Calls Tryd.prog 68 #[.slice a L.length ca, .slice b M.length cb] w fun e w' =>
      e = .returned (.bool (decide (L = M))) ∧ Below w.heap.size w w' := by
  by_cases hlm : L.length = M.length
  · obtain ⟨n, hN⟩ : ∃ n, n = L.length := ⟨_, rfl⟩
    rw [← hlm, ← hN]
    rw [← hN] at hn
    have HN := hide hN
    have HM := hide (hN.trans hlm)
    clear hN hlm hm
    have h2 : ((n : Int) != (n : Int)) = false := by simp
    go_enter Tryd.func68, Tryd.ntmps68
    go_wp2
    go_loopw [13] (fun i wr => ∃ (k nd : Nat), k ≤ n ∧ i = .int .i64 k ∧ wr = w.drewN nd ∧ (∀ j, j < k → vAt L j = vAt M j)) (fun i _ => n - (intOf i).toNat)
    case atStart => exact ⟨0, 0, Nat.zero_le _, rfl, rfl, fun j hj => absurd hj (Nat.not_lt_zero _)⟩
    case round =>
      obtain ⟨k, nd, hk, rfl, rfl, hall⟩ := hrel
      have HA := hide hall
      clear hall
      by_cases hlt : k < n
      · obtain ⟨b1, o1, e1, -, hc1⟩ := hr.open (by rw [← HN.out]; omega)
        obtain ⟨b2, o2, e2, -, hc2⟩ := hq.open (by rw [← HM.out]; omega)
        obtain ⟨c0, c1, c2⟩ := hc1 k (by rw [← HN.out]; exact hlt)
        obtain ⟨d0, d1, d2⟩ := hc2 k (by rw [← HM.out]; exact hlt)
        have l1 : (k : Int) < (n : Int) := by omega
        clear hc1 hc2
        subst e1 e2
        rcases v3_cases (vAt L k) (vAt M k) with hv | ⟨hne, hv⟩
        · have HV := hide hv
          rw [← hv] at d0 d1 d2
          clear hv
          have k1 : ((vAt L k).K == (vAt L k).K) = true := by simp
          have k2 : ((vAt L k).N == (vAt L k).N) = true := by simp
          have k3 : ((vAt L k).S.toList == (vAt L k).S.toList) = true := by simp
          go_wp2
          go_quiet (fail)
          go_wp2
          go_roundw
          case rel => exact ⟨k + 1, _, by omega, by go_num, rfl, fun j hj => by
            by_cases hjk : j = k
            · rw [hjk]; exact HV.out
            · exact HA.out j (by omega)⟩
          case measure => simp [intOf]; omega
        · have HE : Hid (decide (L = M) = false) := decide_eq_false (ne_of_at hne)
          clear hne
          rcases hv with k1 | ⟨k1, k2⟩ | ⟨k1, k2, k3⟩
          all_goals
            go_wp2
            go_quiet (fail)
            go_wp2
            go_ret
            exact ⟨ret_bool HE.out.symm, below_dn (below_dn (Below.refl _ _))⟩
      · have HE : Hid (decide (L = M) = true) := decide_eq_true (eq_of_at (HN.out.symm.trans HM.out) (fun j hj => HA.out j (by rw [← HN.out] at hj; omega)))
        go_wp2
        go_ret
        exact ⟨ret_bool HE.out.symm, below_dn (Below.refl _ _)⟩
  · have HE : Hid (decide (L = M) = false) := decide_eq_false (fun e => hlm (by rw [e]))
    have h2 : ((L.length : Int) != (M.length : Int)) = true := by simp; omega
    go_enter Tryd.func68, Tryd.ntmps68
    go_wp2
    go_ret
    exact ⟨ret_bool HE.out.symm, Below.refl _ _⟩

set_option maxRecDepth 100000 in
set_option maxHeartbeats 1600000 in
theorem specSameFact_any (kd kd' : ByteArray) (a b : Option Addr) (ca cb : Nat) (L M : List V3) (w : World) (hr : RdV w a L) (hq : RdV w b M) (hn : L.length ≤ 1048580) (hm : M.length ≤ 1048580) :
    Calls Tryd.prog 84 #[.agg #[.string kd, .slice a L.length ca], .agg #[.string kd', .slice b M.length cb]] w fun e w' =>
      e = .returned (.bool (sameF kd L kd' M)) ∧ Below w.heap.size w w' := by
  have b0 := below_al w (.cells #[.string kd, .slice a L.length ca] 29)
  have b1 := b0.alloc b0.size (.cells #[.string kd', .slice b M.length cb] 29)
  cases h1 : (kd.toList == kd'.toList)
  · have HE : Hid (sameF kd L kd' M = false) := by
      unfold Hid sameF
      rw [decide_eq_false (fun e => by rw [e] at h1; simp at h1)]; rfl
    go_enter Tryd.func84, Tryd.ntmps84
    go_wp2
    go_ret
    exact ⟨ret_bool HE.out.symm, b1⟩
  · have HE : Hid (sameF kd L kd' M = decide (L = M)) := by
      unfold Hid sameF
      rw [decide_eq_true (toList_inj (by simpa using h1))]; rfl
    go_enter Tryd.func84, Tryd.ntmps84
    go_wp2_with fail
    refine (sameVals_any a b ca cb L M _ (hr.below b1) (hq.below b1) hn hm).mono ?_
    rintro e w2 ⟨rfl, hb2⟩
    have hB2 : Below w.heap.size w w2 := b1.trans (hb2.mono b1.size)
    generalize decide (L = M) = r at HE ⊢
    go_wp2
    go_ret
    exact ⟨ret_bool HE.out.symm, hB2⟩

/-- what lies beyond five -/
theorem RdV.drop {w : World} {b off : Nat} {L : List V3} (h : RdV w (some ⟨b, off, none⟩) L) (k : Nat) : RdV w (some ⟨b, off + k * 3, none⟩) (L.drop k) := by
  intro i hi
  have hi2 : k + i < L.length := by simp at hi; omega
  obtain ⟨b', off', e, h0, h1, h2⟩ := h (k + i) hi2
  simp only [Option.some.injEq, Addr.mk.injEq, and_true] at e
  obtain ⟨rfl, rfl⟩ := e
  have ev : vAt (L.drop k) i = vAt L (k + i) := by rw [vAt_in hi, vAt_in hi2]; simp
  rw [ev]
  exact ⟨b, off + k * 3, rfl, by rw [← h0]; congr 2; omega, by rw [← h1]; congr 2; omega, by rw [← h2]; congr 2; omega⟩

/-- a list of values in memory, or none -/
def LiesV (a : Option Addr) (n cap : Nat) : Prop := (a = none ∧ n = 0 ∧ cap = 0) ∨ ∃ b off, a = some ⟨b, off, none⟩ ∧ n ≤ cap ∧ cap ≤ maxLen

/-- a row of these values is answered -/
def GivesV (e : Ending) (w : World) (D : List V3) : Prop := ∃ a' cap', e = .returned (.slice a' D.length cap') ∧ RdV w a' D
theorem gives_nil {w : World} {a : Option Addr} {cap : Nat} {D : List V3} (h : D = []) : GivesV (.returned (.slice a 0 cap)) w D := by subst h; exact ⟨_, _, rfl, RdV.nil _ _⟩
theorem gives_row {w : World} {a : Option Addr} {n cap : Nat} {D : List V3} (h : D.length = n) (hr : RdV w a D) : GivesV (.returned (.slice a n cap)) w D := by subst h; exact ⟨_, _, rfl, hr⟩

set_option maxRecDepth 100000 in
set_option maxHeartbeats 1600000 in
theorem fieldsBeyond_any (kd : ByteArray) (a : Option Addr) (cap : Nat) (L : List V3) (w : World) (hr : RdV w a L) (hl : LiesV a L.length cap) :
    Calls Tryd.prog 69 #[.agg #[.string kd, .slice a L.length cap]] w fun e w' =>
      GivesV e w' (L.drop 5) ∧ Below w.heap.size w w' := by
  have b0 := below_al w (.cells #[.string kd, .slice a L.length cap] 29)
  have HR := hide (hr.below b0)
  rcases hl with ⟨rfl, h0, rfl⟩ | ⟨b, off, rfl, hc, hm⟩
  · have HL : Hid (L = []) := List.eq_nil_of_length_eq_zero h0
    rw [h0] at b0 ⊢
    clear hr HR
    go_enter Tryd.func69, Tryd.ntmps69
    go_wp2
    go_ret
    exact ⟨gives_nil (by rw [HL.out]; rfl), b0⟩
  · unfold maxLen at hm
    have HD := hide (HR.out.drop 5)
    have HLen : Hid ((L.drop 5).length = L.length - 5) := by unfold Hid; simp
    obtain ⟨n, hN⟩ : ∃ n, n = L.length := ⟨_, rfl⟩
    rw [← hN] at hc b0 HD HLen ⊢
    have HN := hide hN
    clear hr hN HR
    by_cases h5 : n ≤ 5
    · have HE : Hid (L.drop 5 = []) := List.eq_nil_of_length_eq_zero (by rw [HLen.out]; omega)
      go_enter Tryd.func69, Tryd.ntmps69
      go_wp2
      all_goals go_ret
      all_goals exact ⟨gives_nil HE.out, below_al _ _⟩
    · go_enter Tryd.func69, Tryd.ntmps69
      go_wp2
      all_goals go_ret
      all_goals first | exact ⟨gives_row HLen.out HD.out, below_al _ _⟩ | exact ⟨gives_nil (List.eq_nil_of_length_eq_zero (by rw [HLen.out]; omega)), below_al _ _⟩

theorem pad5_inj {L M : List V3} (hl : L.length = M.length) : (pad5 L = pad5 M ∧ L.drop 5 = M.drop 5) ↔ L = M := by
  constructor
  · rintro ⟨h1, h2⟩
    unfold pad5 at h1
    rw [hl] at h1
    have := List.append_cancel_right h1
    rw [← List.take_append_drop 5 L, ← List.take_append_drop 5 M, this, h2]
  · rintro rfl; exact ⟨rfl, rfl⟩
end Go.Proofs.YtakodlfmnedeiabDoor
/-
  What the model's IdOf answers: the Id of the first item with this fact, 0 where there is none.
-/
namespace Go.Proofs.YtakodlfmnedeiabDoor
open Go.RowKit
set_option linter.unusedVariables false

set_option maxRecDepth 100000 in
set_option maxHeartbeats 3200000 in
theorem specIdOf_any (a b : Option Addr) (n cap cb : Nat) (nx : Int) (kd : ByteArray) (J : List It) (M : List V3) (w : World) (hr : RdI w a J) (hq : RdV w b M) (hJ : J.length = n) (hn : n ≤ 1048580) (hl : ∀ i, i < J.length → (iAt J i).L.length ≤ 1048580) (hm : M.length ≤ 1048580) :
    Calls Tryd.prog 46 #[.agg #[.slice a n cap, .int .i64 nx], .agg #[.string kd, .slice b M.length cb]] w fun e w' =>
      e = .returned (.int .i64 (idP (J.map It.pl) kd M)) ∧ Below w.heap.size w w' := by
  have HJ := hide hJ
  have HL := hide hl
  clear hJ hl
  have b0 := below_al w (.cells #[.slice a n cap, .int .i64 nx] 40)
  have b1 := b0.alloc b0.size (.cells #[.string kd, .slice b M.length cb] 29)
  have hA := box_old (box2_new w (.slice a n cap) (.int .i64 nx) 40) (by simp) (.cells #[.string kd, .slice b M.length cb] 29)
  have hC := box2_new (w.alloc (.cells #[.slice a n cap, .int .i64 nx] 40)) (.string kd) (.slice b M.length cb) 29
  simp only [World.size_alloc] at hA hC
  obtain ⟨x0, -, -, -⟩ := box2_cell hA
  obtain ⟨y0, y1, -, -⟩ := box2_cell hC
  replace hr := hr.below b1
  replace hq := hq.below b1
  have hz1 := (Array.getElem?_eq_some_iff.1 hA).1
  have hz2 := (Array.getElem?_eq_some_iff.1 hC).1
  go_enter Tryd.func46, Tryd.ntmps46
  go_wp2
  generalize (w.alloc (.cells #[.slice a n cap, .int .i64 nx] 40)).alloc (.cells #[.string kd, .slice b M.length cb] 29) = w1 at b1 hr hq x0 y0 y1 hz1 hz2 ⊢
  clear b0 hA hC
  go_loopw [5] (fun i wr => ∃ (k : Nat), k ≤ n ∧ i = .int .i64 k ∧ (∀ j, j < k → (iAt J j).same kd M = false) ∧ Below w1.heap.size w1 wr) (fun i _ => n - (intOf i).toNat)
  case atStart => exact ⟨0, Nat.zero_le _, rfl, fun j hj => absurd hj (Nat.not_lt_zero _), Below.refl _ _⟩
  case round =>
    obtain ⟨k, hk, rfl, hno, hbel⟩ := hrel
    have HNo := hide hno
    clear hno
    have hB : Below w.heap.size w wr := b1.trans (hbel.mono b1.size)
    rw [← hbel.cell (p := ⟨w.heap.size, 0, none⟩) hz1] at x0
    rw [← hbel.cell (p := ⟨w.heap.size + 1, 0, none⟩) hz2] at y0
    rw [← hbel.cell (p := ⟨w.heap.size + 1, 1, none⟩) hz2] at y1
    by_cases hlt : k < n
    · obtain ⟨b2, o2, e2, hbw2, hc2⟩ := hr.open (by rw [HJ.out]; omega)
      obtain ⟨c0, c1, c2, hv⟩ := hc2 k (by rw [HJ.out]; exact hlt)
      have HLk := hide (HL.out k (by rw [HJ.out]; exact hlt))
      replace hv := hv.below hbel
      have hq2 := hq.below hbel
      clear hc2
      subst e2
      rw [← hbel.cell (p := ⟨b2, o2 + k * 3, none⟩) hbw2] at c0
      rw [← hbel.cell (p := ⟨b2, o2 + k * 3 + 1, none⟩) hbw2] at c1
      rw [← hbel.cell (p := ⟨b2, o2 + k * 3 + 2, none⟩) hbw2] at c2
      obtain ⟨x, hx⟩ : ∃ x, x = iAt J k := ⟨_, rfl⟩
      rw [← hx] at c0 c1 c2 hv HLk
      have HX := hide hx
      clear hx
      obtain ⟨id, kd', va, vc, L⟩ := x
      simp only at c0 c1 c2 hv HLk
      have T0 : Two w w.heap.size va b L M wr := ⟨hv, hq2, hB, hB.size⟩
      clear hv hq2
      have HSm : Hid ((iAt J k).same kd M = sameF kd' L kd M) := by unfold Hid; rw [← HX.out]; rfl
      have HId : Hid ((iAt J k).id = id) := by unfold Hid; rw [← HX.out]
      cases hs : sameF kd' L kd M
      · have HS := hide hs
        clear hs
        go_wp2_with fail
        go_region_held3 (fun W => W.cell? ⟨w.heap.size, 0, none⟩ = some (.slice (some ⟨b2, o2, none⟩) n cap) ∧ W.cell? ⟨w.heap.size + 1, 0, none⟩ = some (.string kd) ∧ W.cell? ⟨w.heap.size + 1, 1, none⟩ = some (.slice b M.length cb) ∧ W.cell? ⟨b2, o2 + k * 3, none⟩ = some (.int .i64 id) ∧ W.cell? ⟨b2, o2 + k * 3 + 1, none⟩ = some (.string kd') ∧ W.cell? ⟨b2, o2 + k * 3 + 2, none⟩ = some (.slice va L.length vc) ∧ Two w w.heap.size va b L M W) (first | exact ⟨x0, y0, y1, c0, c1, c2, T0.drew⟩ | exact keepI (by assumption) (by assumption))
          (first | (go_at_call 84; refine (specSameFact_any _ _ _ _ _ _ _ _ _ T0.drew.1 T0.drew.2.1 HLk.out hm).mono ?_; rw [HS.out]; rintro e w2 ⟨rfl, hb⟩))
        all_goals
          have hb2 : Below w1.heap.size w1 w2 := hbel.trans ((below_dr hb).mono hbel.size)
          go_wp2
          go_roundw
          case rel => exact ⟨k + 1, by omega, by go_num, fun j hj => by
            by_cases hjk : j = k
            · rw [hjk, HSm.out]; exact HS.out
            · exact HNo.out j (by omega), hb2⟩
          case measure => simp [intOf]; omega
      · have HS := hide hs
        clear hs
        go_wp2_with fail
        go_region_held3 (fun W => W.cell? ⟨w.heap.size, 0, none⟩ = some (.slice (some ⟨b2, o2, none⟩) n cap) ∧ W.cell? ⟨w.heap.size + 1, 0, none⟩ = some (.string kd) ∧ W.cell? ⟨w.heap.size + 1, 1, none⟩ = some (.slice b M.length cb) ∧ W.cell? ⟨b2, o2 + k * 3, none⟩ = some (.int .i64 id) ∧ W.cell? ⟨b2, o2 + k * 3 + 1, none⟩ = some (.string kd') ∧ W.cell? ⟨b2, o2 + k * 3 + 2, none⟩ = some (.slice va L.length vc) ∧ Two w w.heap.size va b L M W) (first | exact ⟨x0, y0, y1, c0, c1, c2, T0.drew⟩ | exact keepI (by assumption) (by assumption))
          (first | (go_at_call 84; refine (specSameFact_any _ _ _ _ _ _ _ _ _ T0.drew.1 T0.drew.2.1 HLk.out hm).mono ?_; rw [HS.out]; rintro e w2 ⟨rfl, hb⟩))
        all_goals
          have hB2 : Below w.heap.size w w2 := hB.trans ((below_dr hb).mono hB.size)
          obtain ⟨z0, z1, z2, z3, z4, z5, -⟩ := keepI (below_dr hb) ⟨x0, y0, y1, c0, c1, c2, T0⟩
          have HI : Hid (idP (J.map It.pl) kd M = id) := by
            unfold Hid
            rw [idP_hit (k := k) (by rw [HJ.out]; exact hlt) HNo.out (by rw [HSm.out]; exact HS.out), HId.out]
          go_wp2
          go_ret
          exact ⟨ret_int HI.out.symm, hB2⟩
    · have HI : Hid (idP (J.map It.pl) kd M = 0) := idP_none (fun j hj => HNo.out j (by rw [HJ.out] at hj; omega))
      go_wp2
      go_ret
      exact ⟨ret_int HI.out.symm, hB⟩
end Go.Proofs.YtakodlfmnedeiabDoor
/-
  The contracts of the laws' own copies of items and stores: what is copied lies in blocks of its own, no two lists in one.
-/
namespace Go.Proofs.YtakodlfmnedeiabDoor
open Go.RowKit
set_option linter.unusedVariables false

theorem box_set12 {w : World} {q : Nat} {c0 c1 c2 : Value} {T : TypeId} (h : w.heap[q]? = some (.cells #[c0, c1, c2] T (0, 0))) (b c : Value) :
    ((w.setCell ⟨q, 1, none⟩ b).setCell ⟨q, 2, none⟩ c).heap[q]? = some (.cells #[c0, b, c] T (0, 0)) ∧ w.grownBy ((w.setCell ⟨q, 1, none⟩ b).setCell ⟨q, 2, none⟩ c) (some q) := by
  have h2 : (w.setCell ⟨q, 1, none⟩ b).heap[q]? = some (.cells #[c0, b, c2] T (0, 0)) := by rw [heap_setCell_same w q 1 _ T b h]; rfl
  refine ⟨by rw [heap_setCell_same _ q 2 _ T c h2]; rfl, ⟨rfl, rfl, rfl, by simp [World.setCell], fun k _ hk => ?_⟩⟩
  rw [heap_setCell_other _ ⟨q, 2, none⟩ k c (fun e => hk (by simp [e])), heap_setCell_other w ⟨q, 1, none⟩ k b (fun e => hk (by simp [e]))]

set_option maxRecDepth 100000 in
set_option maxHeartbeats 1600000 in
theorem toItem_any (id : Int) (kd : ByteArray) (a : Option Addr) (cap : Nat) (L : List V3) (w : World) (hr : RdV w a L) (hn : L.length ≤ 1048576) :
    Calls Tryd.prog 85 #[.agg #[.int .i64 id, .string kd, .slice a L.length cap]] w fun e w' =>
      ∃ g, e = .returned (.agg #[.int .i64 id, .string kd, .slice (some ⟨g, 0, none⟩) L.length L.length]) ∧ w.heap.size ≤ g ∧ OwnV w' g L.length L ∧ Below w.heap.size w w' := by
  go_enter Tryd.func85, Tryd.ntmps85
  go_wp2_with fail
  have b0 := below_al w (.cells #[.int .i64 id, .string kd, .slice a L.length cap] 122)
  have b1 := b0.alloc b0.size (.cells #[.int .i64 0, .string ⟨#[]⟩, .slice none 0 0] 58)
  have b2 := b1.alloc b1.size (.cells #[.int .i64 id, .string ⟨#[]⟩, .slice none 0 0] 58)
  have hR := box_old (box_new (w.alloc (.cells #[.int .i64 id, .string kd, .slice a L.length cap] 122)) (.int .i64 0) (.string ⟨#[]⟩) (.slice none 0 0) 58) (by simp) (.cells #[.int .i64 id, .string ⟨#[]⟩, .slice none 0 0] 58)
  have hX := box_new ((w.alloc (.cells #[.int .i64 id, .string kd, .slice a L.length cap] 122)).alloc (.cells #[.int .i64 0, .string ⟨#[]⟩, .slice none 0 0] 58)) (.int .i64 id) (.string ⟨#[]⟩) (.slice none 0 0) 58
  simp only [World.size_alloc] at hR hX
  refine (toFact_any kd a cap L _ (hr.below b2) hn).mono ?_
  rintro e w1 ⟨g, rfl, hg, hO, hb⟩
  have HR := hide (box_below hR hb (by simp))
  have HX := hide (box_below hX hb (by simp))
  have hB : Below w.heap.size w w1 := b2.trans (hb.mono b2.size)
  clear hb hR hX b0 b1 b2
  simp only [World.size_alloc] at hg
  obtain ⟨x0, x1, x2, xf0, xf1, xf2⟩ := box_cell HX.out
  obtain ⟨r0, r1, r2, rf0, rf1, rf2⟩ := box_cell HR.out
  have HX2 := hide (box_set12 HX.out (.string kd) (.slice (some ⟨g, 0, none⟩) L.length L.length))
  have HR2 := hide (box_gr HR.out HX2.out.2 (by omega))
  go_wp2
  refine box_post HR2.out (fun w4 h4 gr => ?_)
  clear x0 x1 x2 xf0 xf1 xf2 r0 r1 r2 rf0 rf1 rf2
  obtain ⟨c0, c1, c2, -, -, -⟩ := box_cell h4
  have hz := hO.lt
  exact bodyPost_ret (v := .agg #[.int .i64 id, .string kd, .slice (some ⟨g, 0, none⟩) L.length L.length]) (by simp [results, Tryd.results85, go_sem, c0, c1, c2]) rfl
    ⟨_, rfl, by omega, (hO.grown HX2.out.2 (by omega)).grown gr (by omega), below_set (hB.grown HX2.out.2 hB.size (fun k hk => by cases hk; omega)) gr (by omega)⟩

/-- a list of values in memory, or none -/
def LieV (a : Option Addr) (n cap : Nat) : Prop := (a = none ∧ n = 0 ∧ cap = 0) ∨ ∃ b off, a = some ⟨b, off, none⟩ ∧ n ≤ cap ∧ cap ≤ maxLen
theorem OwnV.lies {w : World} {g cap : Nat} {L : List V3} (h : OwnV w g cap L) : LieV (some ⟨g, 0, none⟩) L.length cap := by
  refine .inr ⟨g, 0, rfl, h.cap, ?_⟩
  rcases h.2 with ⟨h1, _⟩ | ⟨g', cap', cur, h1, hb', hh, hnc, hcm, _⟩
  · simp at h1
  · simp only [Value.slice.injEq] at h1
    omega
theorem LieV.nil : LieV none 0 0 := .inl ⟨rfl, rfl, rfl⟩
/-- block g holds the items K, at its head; the values of each item that has any lie in a block of their own -/
structure HoldsI (w : World) (lo g cp : Nat) (K : List It) : Prop where
  own : w.ownsRow 0 58 3 (.slice (some ⟨g, 0, none⟩) K.length cp) K.length (rowOf It.cells K)
  low : lo ≤ g
  vals : ∀ i, i < K.length → (iAt K i).L ≠ [] → ∃ q, (iAt K i).a = some ⟨q, 0, none⟩ ∧ lo ≤ q ∧ q ≠ g ∧ OwnV w q (iAt K i).cap (iAt K i).L
  apart : ∀ i j, i < j → j < K.length → (iAt K i).L ≠ [] → (iAt K j).L ≠ [] → (iAt K i).a ≠ (iAt K j).a
  lies : ∀ i, i < K.length → LieV (iAt K i).a (iAt K i).L.length (iAt K i).cap
theorem HoldsI.rd {w : World} {lo g cp : Nat} {K : List It} (h : HoldsI w lo g cp K) : RdI w (some ⟨g, 0, none⟩) K :=
  (rdI_owns h.own (fun i hi => by
    by_cases e : (iAt K i).L = []
    · rw [e]; exact RdV.nil _ _
    · obtain ⟨q, e, -, -, o⟩ := h.vals i hi e; rw [e]; exact o.rd)).1
theorem HoldsI.later {w w' : World} {lo g cp : Nat} {K : List It} (h : HoldsI w lo g cp K) (hb : Below w.heap.size w w') : HoldsI w' lo g cp K :=
  ⟨ownsRow_below h.own hb, h.low, fun i hi hne => by obtain ⟨q, e, h1, h2, o⟩ := h.vals i hi hne; exact ⟨q, e, h1, h2, o.later hb⟩, h.apart, h.lies⟩
theorem HoldsI.lt {w : World} {lo g cp : Nat} {K : List It} (h : HoldsI w lo g cp K) : g < w.heap.size := (World.ownsRow.lt h.own g rfl).2
theorem HoldsI.grown {w w' : World} {lo g cp q : Nat} {K : List It} (h : HoldsI w lo g cp K) (hg : w.grownBy w' (some q)) (hlo : q < lo) : HoldsI w' lo g cp K := by
  refine ⟨World.ownsRow.kept h.own hg (.inr ?_), h.low, fun i hi hne => ?_, h.apart, h.lies⟩
  · have := h.low
    simp [Value.ownBlock]; omega
  · obtain ⟨p, e, h1, h2, o⟩ := h.vals i hi hne
    exact ⟨p, e, h1, h2, o.grown hg (by omega)⟩
theorem HoldsI.weaken {w : World} {lo lo' g cp : Nat} {K : List It} (h : HoldsI w lo g cp K) (hl : lo' ≤ lo) : HoldsI w lo' g cp K :=
  ⟨h.own, Nat.le_trans hl h.low, fun i hi hne => by obtain ⟨p, e, h1, h2, o⟩ := h.vals i hi hne; exact ⟨p, e, Nat.le_trans hl h1, h2, o⟩, h.apart, h.lies⟩
theorem grown_tr {a b c : World} {row : Option Nat} (h : a.grownBy b row) (k : b.grownBy c row) : a.grownBy c row :=
  ⟨k.os.trans h.os, k.tape.trans h.tape, k.output.trans h.output, Nat.le_trans h.size k.size, fun i hi hne => (k.block i (Nat.lt_of_lt_of_le hi h.size) hne).trans (h.block i hi hne)⟩

/-- the first k items are copied -/
def Copied (w : World) (lo g : Nat) (J K : List It) (k : Nat) : Prop :=
  (∀ i, i < k → (iAt K i).pl = (iAt J i).pl ∧ ((iAt K i).L ≠ [] → ∃ q, (iAt K i).a = some ⟨q, 0, none⟩ ∧ lo ≤ q ∧ q ≠ g ∧ OwnV w q (iAt K i).cap (iAt K i).L) ∧ LieV (iAt K i).a (iAt K i).L.length (iAt K i).cap) ∧ ∀ i j, i < j → j < k → (iAt K i).L ≠ [] → (iAt K j).L ≠ [] → (iAt K i).a ≠ (iAt K j).a
theorem Copied.zero (w : World) (lo g : Nat) (J K : List It) : Copied w lo g J K 0 := ⟨fun i hi => absurd hi (Nat.not_lt_zero _), fun i j _ hj => absurd hj (Nat.not_lt_zero _)⟩
/-- one item more: its values are none, or lie in a block that is new -/
theorem Copied.more {w w1 w2 : World} {lo g : Nat} {J K K' : List It} {k : Nat} {x : It} (h : Copied w lo g J K k) (hb : Below w.heap.size w w1) (hg : w1.grownBy w2 (some g)) (hsame : ∀ i, i < k → iAt K' i = iAt K i) (hnew : iAt K' k = x) (hx : x.pl = (iAt J k).pl)
    (hq : x.L ≠ [] → ∃ q, x.a = some ⟨q, 0, none⟩ ∧ w.heap.size ≤ q ∧ OwnV w1 q x.cap x.L) (hli : LieV x.a x.L.length x.cap) (hlo : lo ≤ w.heap.size) (hgl : g < w.heap.size) : Copied w2 lo g J K' (k + 1) := by
  refine ⟨fun i hi => ?_, fun i j hij hj => ?_⟩
  · by_cases e : i = k
    · rw [e, hnew]
      exact ⟨hx, fun hne => by obtain ⟨q, h1, h2, o⟩ := hq hne; exact ⟨q, h1, by omega, by omega, o.grown hg (by omega)⟩, hli⟩
    · rw [hsame i (by omega)]
      obtain ⟨h2, h3, h4⟩ := h.1 i (by omega)
      exact ⟨h2, fun hne => by obtain ⟨p, h5, h6, h7, h8⟩ := h3 hne; exact ⟨p, h5, h6, h7, (h8.later hb).grown hg h7⟩, h4⟩
  · rw [hsame i (by omega)]
    intro hne
    by_cases e : j = k
    · rw [e, hnew]
      intro hne2
      obtain ⟨q, h1, h2, -⟩ := hq hne2
      obtain ⟨p, h3, -, -, h6⟩ := (h.1 i (by omega)).2.1 hne
      rw [h3, h1]
      have := h6.lt
      intro he
      simp only [Option.some.injEq, Addr.mk.injEq, and_true] at he
      omega
    · rw [hsame j (by omega)]
      exact h.2 i j hij (by omega) hne
theorem Copied.step {w w1 w2 : World} {lo g : Nat} {J K : List It} {k q : Nat} {x : It} (h : Copied w lo g J K k) (hb : Below w.heap.size w w1) (hg : w1.grownBy w2 (some g)) (hk : k < K.length) (hx : x.pl = (iAt J k).pl)
    (hq : x.a = some ⟨q, 0, none⟩) (h1 : w.heap.size ≤ q) (hlo : lo ≤ w.heap.size) (hgl : g < w.heap.size) (o : OwnV w1 q x.cap x.L) : Copied w2 lo g J (K.set k x) (k + 1) :=
  h.more hb hg (fun i hi => by rw [iAt_set hk, if_neg (by omega)]) (by rw [iAt_set hk, if_pos rfl]) hx (fun _ => ⟨q, hq, h1, o⟩) (by rw [hq]; exact o.lies) hlo hgl
theorem Copied.done {w : World} {lo g cp : Nat} {J K : List It} (h : Copied w lo g J K K.length) (hl : K.length = J.length) (hlo : lo ≤ g) (o : w.ownsRow lo 58 3 (.slice (some ⟨g, 0, none⟩) K.length cp) K.length (rowOf It.cells K)) : HoldsI w lo g cp K ∧ K.map It.pl = J.map It.pl := by
  refine ⟨⟨?_, hlo, fun i hi => (h.1 i hi).2.1, h.2, fun i hi => (h.1 i hi).2.2⟩, pl_ext hl (fun i hi => (h.1 i hi).1)⟩
  refine ⟨o.1, ?_⟩
  rcases o.2 with h2 | ⟨g, cap, cur, h1, hb, rest⟩
  · exact .inl h2
  · exact .inr ⟨g, cap, cur, h1, Nat.zero_le _, rest⟩

theorem Tryd.info58 : (Tryd.prog.info? 58).map (fun i => (i.zero, i.size, i.bytes)) = some (some (.agg #[.int .i64 0, .string ⟨#[]⟩, .slice none 0 0]), 3, 48) := by kernel_rfl
theorem It.zero_cells : It.cells ⟨0, ⟨#[]⟩, none, 0, []⟩ = [.int .i64 0, .string ⟨#[]⟩, .slice none 0 0] := rfl

set_option maxRecDepth 100000 in
set_option maxHeartbeats 3200000 in
theorem toItemS_any (a : Option Addr) (cap : Nat) (J : List It) (w : World) (hr : RdI w a J) (hn : J.length ≤ 1048576) (hl : ∀ i, i < J.length → (iAt J i).L.length ≤ 1048576) :
    Calls Tryd.prog 47 #[.slice a J.length cap] w fun e w' =>
      ∃ K g, e = .returned (.slice (some ⟨g, 0, none⟩) J.length J.length) ∧ HoldsI w' w.heap.size g J.length K ∧ K.map It.pl = J.map It.pl ∧ Below w.heap.size w w' := by
  obtain ⟨i0, hi, hz0, hz1, hz2⟩ := info_parts Tryd.info58
  obtain ⟨n, hN⟩ : ∃ n, n = J.length := ⟨_, rfl⟩
  rw [← hN] at hn ⊢
  have HN := hide hN
  have HL := hide hl
  clear hN hl
  go_enter Tryd.func47, Tryd.ntmps47
  go_wp2_with (at_make; refine wpList_make_full _ rfl _ _ 38 rfl w.heap.size 58 i0 (.agg #[.int .i64 0, .string ⟨#[]⟩, .slice none 0 0]) 3 Tryd.underlying38 hi hz0 hz1 _ _ _ _ n rfl rfl (by omega) (by omega) ?b2 ?b3 (Nat.le_refl _) ?_)
  case b2 => rw [hz2]; omega
  case b3 => unfold maxLen; omega
  intro w0 hown0 hgrow0
  rw [rowOf_replicate It.zero_cells] at hown0
  have hs0 : w.heap.size < w0.heap.size := (hown0.lt w.heap.size rfl).2
  have hb0 : Below w.heap.size w w0 := (Below.refl _ _).grown hgrow0 (Nat.le_refl _) (fun k h => by cases h)
  go_wp2
  go_loopw [4] (fun i wr => ∃ (k : Nat) (K : List It), k ≤ n ∧ i = .int .i64 k ∧ K.length = n ∧ wr.ownsRow w.heap.size 58 3 (.slice (some ⟨w.heap.size, 0, none⟩) n n) n (rowOf It.cells K) ∧ Copied wr w.heap.size w.heap.size J K k ∧ Below w.heap.size w wr ∧ w.heap.size < wr.heap.size)
    (fun i _ => n - (intOf i).toNat)
  case atStart => exact ⟨0, List.replicate n ⟨0, ⟨#[]⟩, none, 0, []⟩, Nat.zero_le _, rfl, by simp, hown0, Copied.zero _ _ _ _ _, hb0, hs0⟩
  case round =>
    clear hown0 hgrow0 hb0 hs0
    obtain ⟨k, K, hk, rfl, hKn, hown, hcop, hbel, hsz⟩ := hrel
    have HKn := hide hKn
    have HCop := hide hcop
    clear hKn hcop
    by_cases hlt : k < n
    · obtain ⟨b, off, hab, hbw, hc⟩ := hr.open (by rw [← HN.out]; omega)
      obtain ⟨c0, c1, c2, hv⟩ := hc k (by rw [← HN.out]; exact hlt)
      have HV := hide (hv.below hbel)
      clear hc hv
      subst hab
      rw [← hbel.cell (p := ⟨b, off + k * 3, none⟩) hbw] at c0
      rw [← hbel.cell (p := ⟨b, off + k * 3 + 1, none⟩) hbw] at c1
      rw [← hbel.cell (p := ⟨b, off + k * 3 + 2, none⟩) hbw] at c2
      have HK := hide (HL.out k (by rw [← HN.out]; exact hlt))
      obtain ⟨x, hx⟩ : ∃ x, x = iAt J k := ⟨_, rfl⟩
      rw [← hx] at c0 c1 c2 HV HK
      have HX := hide hx
      clear hx
      obtain ⟨id, kd, va, vc, L⟩ := x
      simp only at c0 c1 c2 HV HK
      go_wp2_with fail
      refine (toItem_any id kd va vc L _ HV.out HK.out).mono ?_
      rintro e w2 ⟨g, rfl, hg, o, hb2⟩
      have hown2 : w2.ownsRow w.heap.size 58 3 (.slice (some ⟨w.heap.size, 0, none⟩) n n) n (rowOf It.cells K) := ownsRow_below hown hb2
      have hbel2 : Below w.heap.size w w2 := hbel.trans (hb2.mono hbel.size)
      have hlen : (rowOf It.cells K).length = n * 3 := by rw [rowOf_length It.cells_length, HKn.out]
      have hmem : ∀ j, j < 3 → ∃ u, w2.cell? ⟨w.heap.size, k * 3 + j, none⟩ = some u := fun j hj => by
        rw [hown2.cellAt (k * 3 + j) (by omega), List.getElem?_eq_getElem (by omega)]
        exact ⟨_, rfl⟩
      obtain ⟨u0, m0⟩ := hmem 0 (by omega)
      obtain ⟨u1, m1⟩ := hmem 1 (by omega)
      obtain ⟨u2, m2⟩ := hmem 2 (by omega)
      rw [Nat.add_zero] at m0
      have f0 := hown2.frozenAt (k * 3)
      have f1 := hown2.frozenAt (k * 3 + 1)
      have f2 := hown2.frozenAt (k * 3 + 2)
      have s1 := hown2.stored (k * 3) (.int .i64 id)
      have s2 := s1.1.stored (k * 3 + 1) (.string kd)
      have s3 := s2.1.stored (k * 3 + 2) (.slice (some ⟨g, 0, none⟩) L.length L.length)
      have HO := hide s3.1
      have hset := rowOf_set3 It.cells_length ⟨id, kd, some ⟨g, 0, none⟩, L.length, L⟩ (.int .i64 id) (.string kd) (.slice (some ⟨g, 0, none⟩) L.length L.length) rfl K k (by rw [HKn.out]; exact hlt)
      rw [hset] at HO
      have HC := hide (HCop.out.step (x := ⟨id, kd, some ⟨g, 0, none⟩, L.length, L⟩) hb2 (grown_tr (grown_tr s1.2 s2.2) s3.2) (by rw [HKn.out]; exact hlt) (by rw [← HX.out]; rfl) rfl hg (Nat.le_of_lt hsz) hsz o)
      have HB : Hid (Below w.heap.size w (((w2.setCell ⟨w.heap.size, k * 3, none⟩ (.int .i64 id)).setCell ⟨w.heap.size, k * 3 + 1, none⟩ (.string kd)).setCell ⟨w.heap.size, k * 3 + 2, none⟩ (.slice (some ⟨g, 0, none⟩) L.length L.length))) := ((hbel2.setCell (Nat.le_refl _) _).setCell (Nat.le_refl _) _).setCell (Nat.le_refl _) _
      have HZ : Hid (w.heap.size < (((w2.setCell ⟨w.heap.size, k * 3, none⟩ (.int .i64 id)).setCell ⟨w.heap.size, k * 3 + 1, none⟩ (.string kd)).setCell ⟨w.heap.size, k * 3 + 2, none⟩ (.slice (some ⟨g, 0, none⟩) L.length L.length)).heap.size) := by
        have h1 := hb2.size
        have h2 := (grown_tr (grown_tr s1.2 s2.2) s3.2).size
        exact Nat.lt_of_lt_of_le (Nat.lt_of_lt_of_le hsz h1) h2
      have HLen : Hid ((K.set k ⟨id, kd, some ⟨g, 0, none⟩, L.length, L⟩).length = n) := by unfold Hid; rw [List.length_set, HKn.out]
      clear hmem hlen c0 c1 c2 hown hbel hb2 s1 s2 s3 hset hown2 hbel2 o HV HK HCop
      go_wp2
      go_roundw
      case rel => exact ⟨k + 1, _, by omega, by go_num, HLen.out, HO.out, HC.out, HB.out, HZ.out⟩
      case measure => simp [intOf]; omega
    · have hkn : k = K.length := by rw [HKn.out]; omega
      have HR : Hid (HoldsI wr w.heap.size w.heap.size n K ∧ K.map It.pl = J.map It.pl) := by
        refine Copied.done (hkn ▸ HCop.out) (by rw [HKn.out, HN.out]) (Nat.le_refl _) ?_
        rw [HKn.out]; exact hown
      clear hkn hown
      go_wp2
      go_ret
      exact ⟨K, _, rfl, HR.out.1, HR.out.2, hbel⟩

set_option maxRecDepth 100000 in
set_option maxHeartbeats 1600000 in
theorem toStore_any (a : Option Addr) (cap : Nat) (J : List It) (nx : Int) (w : World) (hr : RdI w a J) (hn : J.length ≤ 1048576) (hl : ∀ i, i < J.length → (iAt J i).L.length ≤ 1048576) :
    Calls Tryd.prog 16 #[.agg #[.slice a J.length cap, .int .i64 nx]] w fun e w' =>
      ∃ K g, e = .returned (.agg #[.slice (some ⟨g, 0, none⟩) J.length J.length, .int .i64 nx]) ∧ HoldsI w' w.heap.size g J.length K ∧ K.map It.pl = J.map It.pl ∧ Below w.heap.size w w' := by
  go_enter Tryd.func16, Tryd.ntmps16
  go_wp2_with fail
  have b0 := below_al w (.cells #[.slice a J.length cap, .int .i64 nx] 35)
  have b1 := b0.alloc b0.size (.cells #[.slice none 0 0, .int .i64 0] 40)
  have b2 := b1.alloc b1.size (.cells #[.slice none 0 0, .int .i64 0] 40)
  have hA := box_old (box_old (box2_new w (.slice a J.length cap) (.int .i64 nx) 35) (by simp) (.cells #[.slice none 0 0, .int .i64 0] 40)) (by simp; omega) (.cells #[.slice none 0 0, .int .i64 0] 40)
  have hR := box_old (box2_new (w.alloc (.cells #[.slice a J.length cap, .int .i64 nx] 35)) (.slice none 0 0) (.int .i64 0) 40) (by simp) (.cells #[.slice none 0 0, .int .i64 0] 40)
  have hX := box2_new ((w.alloc (.cells #[.slice a J.length cap, .int .i64 nx] 35)).alloc (.cells #[.slice none 0 0, .int .i64 0] 40)) (.slice none 0 0) (.int .i64 0) 40
  simp only [World.size_alloc] at hA hR hX
  refine (toItemS_any a cap J _ (hr.below b2) hn hl).mono ?_
  rintro e w1 ⟨K, g, rfl, hH, hpl, hb⟩
  have HA := hide (box_below hA hb (by simp; omega))
  have HR := hide (box_below hR hb (by simp))
  have HX := hide (box_below hX hb (by simp))
  have hB : Below w.heap.size w w1 := b2.trans (hb.mono b2.size)
  have hz : w.heap.size + 1 + 1 + 1 ≤ g := by have := hH.low; simp only [World.size_alloc] at this; exact this
  have HP := hide hpl
  have HH := hide hH
  clear hb hA hR hX b0 b1 b2 hpl hH
  obtain ⟨x0, x1, xf0, xf1⟩ := box2_cell HX.out
  obtain ⟨r0, r1, rf0, rf1⟩ := box2_cell HR.out
  obtain ⟨a0, a1, -, -⟩ := box2_cell HA.out
  have HX2 := hide (box2_set HX.out (.slice (some ⟨g, 0, none⟩) J.length J.length) (.int .i64 nx))
  have HR2 := hide (box_gr HR.out HX2.out.2 (by omega))
  go_wp2
  refine box2_post HR2.out (fun w4 h4 gr => ?_)
  clear x0 x1 xf0 xf1 r0 r1 rf0 rf1 a0 a1
  obtain ⟨c0, c1, -, -⟩ := box2_cell h4
  refine bodyPost_ret (v := .agg #[.slice (some ⟨g, 0, none⟩) J.length J.length, .int .i64 nx]) (by simp [results, Tryd.results16, go_sem, c0, c1]) rfl
    ⟨K, g, rfl, ?_, HP.out, below_set (hB.grown HX2.out.2 hB.size (fun k hk => by cases hk; omega)) gr (by omega)⟩
  have h1 := HH.out.grown HX2.out.2 (by simp)
  have h2 := h1.grown gr (by simp)
  exact h2.weaken (by simp; omega)
end Go.Proofs.YtakodlfmnedeiabDoor
/-
  Four cells in memory, and whatever else is kept where all that was there is.
-/
namespace Go.Proofs.YtakodlfmnedeiabDoor
open Go.RowKit
set_option linter.unusedVariables false

theorem keep4 {P : World → Prop} {W w' : World} {p0 p1 p2 p3 : Addr} {v0 v1 v2 v3 : Value} (hP : ∀ {W W' : World}, P W → Below W.heap.size W W' → P W') (hb : Below W.heap.size W w')
    (h : W.cell? p0 = some v0 ∧ W.cell? p1 = some v1 ∧ W.cell? p2 = some v2 ∧ W.cell? p3 = some v3 ∧ P W) :
    w'.cell? p0 = some v0 ∧ w'.cell? p1 = some v1 ∧ w'.cell? p2 = some v2 ∧ w'.cell? p3 = some v3 ∧ P w' := by
  obtain ⟨h0, h1, h2, h3, h4⟩ := h
  have k : ∀ {a : Addr} {v : Value}, W.cell? a = some v → w'.cell? a = some v := fun {a v} h => by rw [hb.cell (World.block_lt_of_cell? W _ h)]; exact h
  exact ⟨k h0, k h1, k h2, k h3, hP h4 hb⟩
theorem kept0 {W w' : World} {p : Addr} {v : Value} (hb : Below W.heap.size W w') (h : W.cell? p = some v) : w'.cell? p = some v := by rw [hb.cell (World.block_lt_of_cell? W _ h)]; exact h

/-- a store and a fact as they came in, and all that was there at the head -/
structure SF (w : World) (a b : Option Addr) (J : List It) (M : List V3) (W : World) : Prop where
  rdI : RdI W a J
  rdV : RdV W b M
  bel : Below w.heap.size w W
theorem SF.keep {w W W' : World} {a b : Option Addr} {J : List It} {M : List V3} (h : SF w a b J M W) (hb : Below W.heap.size W W') : SF w a b J M W' :=
  ⟨h.rdI.below hb, h.rdV.below hb, h.bel.trans (hb.mono h.bel.size)⟩
theorem SF.drew {w W : World} {a b : Option Addr} {J : List It} {M : List V3} (h : SF w a b J M W) : SF w a b J M W.drew := h.keep ((Below.refl _ _).drew)
theorem SF.rdi {w W : World} {a b : Option Addr} {J : List It} {M : List V3} {p0 p1 p2 p3 : Addr} {v0 v1 v2 v3 : Value} (h : W.cell? p0 = some v0 ∧ W.cell? p1 = some v1 ∧ W.cell? p2 = some v2 ∧ W.cell? p3 = some v3 ∧ SF w a b J M W) : RdI W a J := h.2.2.2.2.rdI
theorem SF.rdv {w W : World} {a b : Option Addr} {J : List It} {M : List V3} {p0 p1 p2 p3 : Addr} {v0 v1 v2 v3 : Value} (h : W.cell? p0 = some v0 ∧ W.cell? p1 = some v1 ∧ W.cell? p2 = some v2 ∧ W.cell? p3 = some v3 ∧ SF w a b J M W) : RdV W b M := h.2.2.2.2.rdV
/-- a store as it came in, its copy, and all that was there at the head -/
structure SC (w : World) (a : Option Addr) (lo g cp : Nat) (J K : List It) (W : World) : Prop where
  rdI : RdI W a J
  copy : HoldsI W lo g cp K
  bel : Below w.heap.size w W
theorem SC.keep {w W W' : World} {a : Option Addr} {lo g cp : Nat} {J K : List It} (h : SC w a lo g cp J K W) (hb : Below W.heap.size W W') : SC w a lo g cp J K W' :=
  ⟨h.rdI.below hb, h.copy.later hb, h.bel.trans (hb.mono h.bel.size)⟩
theorem SC.drew {w W : World} {a : Option Addr} {lo g cp : Nat} {J K : List It} (h : SC w a lo g cp J K W) : SC w a lo g cp J K W.drew := h.keep ((Below.refl _ _).drew)
theorem SC.rdi {w W : World} {a : Option Addr} {lo g cp : Nat} {J K : List It} {p0 p1 p2 p3 : Addr} {v0 v1 v2 v3 : Value} (h : W.cell? p0 = some v0 ∧ W.cell? p1 = some v1 ∧ W.cell? p2 = some v2 ∧ W.cell? p3 = some v3 ∧ SC w a lo g cp J K W) : RdI W a J := h.2.2.2.2.rdI
theorem SC.cp {w W : World} {a : Option Addr} {lo g cp : Nat} {J K : List It} {p0 p1 p2 p3 : Addr} {v0 v1 v2 v3 : Value} (h : W.cell? p0 = some v0 ∧ W.cell? p1 = some v1 ∧ W.cell? p2 = some v2 ∧ W.cell? p3 = some v3 ∧ SC w a lo g cp J K W) : RdI W (some ⟨g, 0, none⟩) K := h.2.2.2.2.copy.rd

end Go.Proofs.YtakodlfmnedeiabDoor
/-
  What the model's StoreOk answers: storeB.
-/
namespace Go.Proofs.YtakodlfmnedeiabDoor
open Go.RowKit
set_option linter.unusedVariables false

theorem keep6P {P : World → Prop} {W w' : World} {p0 p1 p2 p3 p4 p5 : Addr} {v0 v1 v2 v3 v4 v5 : Value} (hP : ∀ {W W' : World}, P W → Below W.heap.size W W' → P W') (hb : Below W.heap.size W w')
    (h : W.cell? p0 = some v0 ∧ W.cell? p1 = some v1 ∧ W.cell? p2 = some v2 ∧ W.cell? p3 = some v3 ∧ W.cell? p4 = some v4 ∧ W.cell? p5 = some v5 ∧ P W) :
    w'.cell? p0 = some v0 ∧ w'.cell? p1 = some v1 ∧ w'.cell? p2 = some v2 ∧ w'.cell? p3 = some v3 ∧ w'.cell? p4 = some v4 ∧ w'.cell? p5 = some v5 ∧ P w' := by
  obtain ⟨h0, h1, h2, h3, h4, h5, h6⟩ := h
  have k : ∀ {a : Addr} {v : Value}, W.cell? a = some v → w'.cell? a = some v := fun {a v} h => by rw [hb.cell (World.block_lt_of_cell? W _ h)]; exact h
  exact ⟨k h0, k h1, k h2, k h3, k h4, k h5, hP h6 hb⟩
theorem keep5P {P : World → Prop} {W w' : World} {p0 p1 p2 p3 p4 : Addr} {v0 v1 v2 v3 v4 : Value} (hP : ∀ {W W' : World}, P W → Below W.heap.size W W' → P W') (hb : Below W.heap.size W w')
    (h : W.cell? p0 = some v0 ∧ W.cell? p1 = some v1 ∧ W.cell? p2 = some v2 ∧ W.cell? p3 = some v3 ∧ W.cell? p4 = some v4 ∧ P W) :
    w'.cell? p0 = some v0 ∧ w'.cell? p1 = some v1 ∧ w'.cell? p2 = some v2 ∧ w'.cell? p3 = some v3 ∧ w'.cell? p4 = some v4 ∧ P w' := by
  obtain ⟨h0, h1, h2, h3, h4, h6⟩ := h
  have k : ∀ {a : Addr} {v : Value}, W.cell? a = some v → w'.cell? a = some v := fun {a v} h => by rw [hb.cell (World.block_lt_of_cell? W _ h)]; exact h
  exact ⟨k h0, k h1, k h2, k h3, k h4, hP h6 hb⟩
theorem l1In_s (x a b : Int) (w : World) : Calls Tryd.prog 45 #[.int .i64 x, .int .i64 a, .int .i64 b] w fun e w' => e = .returned (.bool (inB x a b)) ∧ w' = w := by
  by_cases h1 : a ≤ x
  · by_cases h2 : x ≤ b
    · rw [inB_t ⟨h1, h2⟩]
      go_enter Tryd.func45, Tryd.ntmps45
      go_wp2
      go_ret
      exact ⟨rfl, rfl⟩
    · rw [inB_f (fun h => h2 h.2)]
      go_enter Tryd.func45, Tryd.ntmps45
      go_wp2
      go_ret
      exact ⟨rfl, rfl⟩
  · rw [inB_f (fun h => h1 h.1)]
    go_enter Tryd.func45, Tryd.ntmps45
    go_wp2
    go_ret
    exact ⟨rfl, rfl⟩

set_option maxRecDepth 100000 in
set_option maxHeartbeats 64000000 in
theorem specStoreOk_any (a : Option Addr) (n cap : Nat) (nx : Int) (J : List It) (w : World) (hr : RdI w a J) (hJ : J.length = n) (hn : n ≤ 1048580) (hs : ∀ i, i < J.length → okI (iAt J i)) (hl : ∀ i, i < J.length → (iAt J i).L.length ≤ 1048580) :
    Calls Tryd.prog 15 #[.agg #[.slice a n cap, .int .i64 nx]] w fun e w' => e = .returned (.bool (storeB nx J)) ∧ Below w.heap.size w w' := by
  have b0 := below_al w (.cells #[.slice a n cap, .int .i64 nx] 40)
  have HNo : Hid (¬ (1 ≤ nx ∧ nx ≤ 1000000 ∧ n ≤ 40) → storeB nx J = false) := fun h => storeB_no (fun hr => h (by rw [← hJ]; exact hr.1))
  have hA := box2_new w (.slice a n cap) (.int .i64 nx) 40
  cases hin : inB nx 1 1000000
  · have HF := hide (HNo.out (fun h => by rw [inB_t ⟨h.1, h.2.1⟩] at hin; cases hin))
    go_enter Tryd.func15, Tryd.ntmps15
    go_wp2_with (go_at_call 45; refine (l1In_s _ _ _ _).mono ?_; rw [hin]; rintro e w' ⟨rfl, rfl⟩)
    go_ret
    exact ⟨ret_bool HF.out.symm, b0⟩
  by_cases h40 : (40 : Int) < (n : Int)
  · have HF := hide (HNo.out (by omega))
    go_enter Tryd.func15, Tryd.ntmps15
    go_wp2_with (go_at_call 45; refine (l1In_s _ _ _ _).mono ?_; rw [hin]; rintro e w' ⟨rfl, rfl⟩)
    go_ret
    exact ⟨ret_bool HF.out.symm, b0⟩
  have hin2 : 1 ≤ nx ∧ nx ≤ 1000000 := by unfold inB at hin; simpa using hin
  have H0 : Hid (1 ≤ nx ∧ nx ≤ 1000000 ∧ J.length ≤ 40) := ⟨hin2.1, hin2.2, by rw [hJ]; omega⟩
  have HJ := hide hJ
  have HS := hide hs
  have HL := hide hl
  have HIn := hide hin
  clear hJ hs hl hin hin2 HNo
  go_enter Tryd.func15, Tryd.ntmps15
  go_wp2_with (go_at_call 45; refine (l1In_s _ _ _ _).mono ?_; rw [HIn.out]; rintro e w' ⟨rfl, rfl⟩)
  generalize w.alloc (.cells #[.slice a n cap, .int .i64 nx] 40) = w1 at b0 hA ⊢
  obtain ⟨s0, s1, -, -⟩ := box2_cell hA
  have hzA := (Array.getElem?_eq_some_iff.1 hA).1
  replace hr := hr.below b0
  clear hA
  go_loopw [3] (fun i wr => ∃ (k : Nat), k ≤ n ∧ i = .int .i64 k ∧ (∀ j, j < k → okAt J nx j ∧ idP (J.map It.pl) (iAt J j).kd (iAt J j).L = (iAt J j).id) ∧ Below w1.heap.size w1 wr) (fun i _ => n - (intOf i).toNat)
  case atStart => exact ⟨0, Nat.zero_le _, rfl, fun j hj => absurd hj (Nat.not_lt_zero _), Below.refl _ _⟩
  case round =>
    obtain ⟨k, hk, rfl, hok, hbel⟩ := hrel
    have HOk := hide hok
    clear hok
    rw [← hbel.cell (p := ⟨w.heap.size, 0, none⟩) hzA] at s0
    rw [← hbel.cell (p := ⟨w.heap.size, 1, none⟩) hzA] at s1
    have hB : Below w.heap.size w wr := b0.trans (hbel.mono b0.size)
    by_cases hlt : k < n
    · obtain ⟨b2, o2, e2, hbw2, hc2⟩ := (hr.below hbel).open (by rw [HJ.out]; omega)
      obtain ⟨c0, c1, c2, hv⟩ := hc2 k (by rw [HJ.out]; exact hlt)
      have hkJ : k < J.length := by rw [HJ.out]; exact hlt
      have HSk := hide (HS.out k hkJ)
      have HLk := hide (HL.out k hkJ)
      have HW : Hid (¬ okAt J nx k → storeB nx J = false) := wrong_at hkJ
      have HWi : Hid (idP (J.map It.pl) (iAt J k).kd (iAt J k).L ≠ (iAt J k).id → storeB nx J = false) := wrong_id hkJ
      have HOkk : Hid (prevId J k < (iAt J k).id → (iAt J k).id < nx → factB (iAt J k).kd (iAt J k).L = true → okAt J nx k) := fun h1 h2 h3 => ⟨h1, h2, h3⟩
      have HNo : Hid (¬ (prevId J k < (iAt J k).id ∧ (iAt J k).id < nx ∧ factB (iAt J k).kd (iAt J k).L = true) → ¬ okAt J nx k) := fun h1 h2 => h1 h2
      have hpos : 0 ≤ prevId J k ∧ (0 < k → wr.cell? ⟨b2, o2 + (k - 1) * 3, none⟩ = some (.int .i64 (prevId J k))) := by
        constructor
        · unfold prevId
          split
          · exact Int.le_refl _
          · have := (ids_up (J := J) (nx := nx) (n := k) (by omega) (fun j hj => (HOk.out j hj).1)).1 (k - 1) (by omega); omega
        · intro h0
          have := (hc2 (k - 1) (by omega)).1
          unfold prevId
          rw [if_neg (by omega)]
          exact this
      obtain ⟨hpos, hpc⟩ := hpos
      have HZ : Hid (k = 0 → prevId J k = 0) := fun h => by unfold prevId; rw [if_pos h]
      have hrw := hr.below hbel
      clear hc2 hkJ
      subst e2
      obtain ⟨p, hp⟩ : ∃ p, p = prevId J k := ⟨_, rfl⟩
      rw [← hp] at HOkk HNo hpos hpc HZ
      clear hp
      obtain ⟨R, hR⟩ : ∃ R, idP (J.map It.pl) (iAt J k).kd (iAt J k).L = R := ⟨_, rfl⟩
      have HR := hide hR
      rw [hR] at HWi
      clear hR
      obtain ⟨x, hx⟩ : ∃ x, x = iAt J k := ⟨_, rfl⟩
      have HX := hide hx
      rw [← hx] at c0 c1 c2 hv HSk HLk HOkk HNo HR HWi
      clear hx
      obtain ⟨id, kd, va, vc, L⟩ := x
      simp only at c0 c1 c2 hv HSk HLk HOkk HNo HR HWi
      have ba := below_al wr (.cells #[.int .i64 id, .string kd, .slice va L.length vc] 58)
      have HBox := hide (box_new wr (.int .i64 id) (.string kd) (.slice va L.length vc) 58)
      have hB1 : Below w.heap.size w (wr.alloc (.cells #[.int .i64 id, .string kd, .slice va L.length vc] 58)) := hB.trans (ba.mono hB.size)
      have hb1 : Below w1.heap.size w1 (wr.alloc (.cells #[.int .i64 id, .string kd, .slice va L.length vc] 58)) := hbel.trans (ba.mono hbel.size)
      have s0' := kept0 ba s0
      have s1' := kept0 ba s1
      have hv1 := hv.below ba
      have hr1 := hrw.below ba
      obtain ⟨x0, x1, x2, -, -, -⟩ := box_cell HBox.out
      have hSF : ∀ {W W' : World}, (RdI W (some ⟨b2, o2, none⟩) J ∧ RdV W va L ∧ Below w1.heap.size w1 W ∧ (0 < k → W.cell? ⟨b2, o2 + (k - 1) * 3, none⟩ = some (.int .i64 p))) → Below W.heap.size W W' → (RdI W' (some ⟨b2, o2, none⟩) J ∧ RdV W' va L ∧ Below w1.heap.size w1 W' ∧ (0 < k → W'.cell? ⟨b2, o2 + (k - 1) * 3, none⟩ = some (.int .i64 p))) := fun h hb => ⟨h.1.below hb, h.2.1.below hb, h.2.2.1.trans (hb.mono h.2.2.1.size), fun h0 => kept0 hb (h.2.2.2 h0)⟩
      have hpc' := fun h0 => kept0 ba (hpc h0)
      go_wp2_with fail
      generalize wr.alloc (.cells #[.int .i64 id, .string kd, .slice va L.length vc] 58) = w2 at s0' s1' hv1 hr1 x0 x1 x2 hB1 hb1 hpc' ⊢
      refine wp_region_held_drew (S := (fun W => W.cell? ⟨w.heap.size, 0, none⟩ = some (.slice (some ⟨b2, o2, none⟩) n cap) ∧ W.cell? ⟨w.heap.size, 1, none⟩ = some (.int .i64 nx) ∧ W.cell? ⟨wr.heap.size, 0, none⟩ = some (.int .i64 id) ∧ W.cell? ⟨wr.heap.size, 1, none⟩ = some (.string kd) ∧ W.cell? ⟨wr.heap.size, 2, none⟩ = some (.slice va L.length vc) ∧ (RdI W (some ⟨b2, o2, none⟩) J ∧ RdV W va L ∧ Below w1.heap.size w1 W ∧ (0 < k → W.cell? ⟨b2, o2 + (k - 1) * 3, none⟩ = some (.int .i64 p))))) (by kernel_rfl) ⟨s0', s1', x0, x1, x2, hSF ⟨hr1, hv1, hb1, hpc'⟩ ((Below.refl _ _).drew)⟩ (fun hHeld => ?_)
      refine wpAnyH_take (i := 0) (oi := Oper.mk (some 27) _ _ _ _ _) (v := ?v1) rfl (by kernel_rfl) (by kernel_rfl) (by kernel_rfl) (fun _ _ _ h => h) (Or.inl ⟨by rfl, ?y1⟩) hHeld ?r1
      case y1 => (intro W hSW; obtain ⟨q0, q1, q2, q3, q4, -⟩ := hSW; go_simp; try with_reducible rfl)
      simp only [Act.put, List.setIfInBounds_toArray, List.set_cons_zero, List.set_cons_succ]
      refine wpAnyH_take (i := 1) (oi := Oper.mk (some 28) _ _ _ _ _) (v := ?v2) rfl (by kernel_rfl) (by kernel_rfl) (by kernel_rfl) (fun _ _ _ h => h) (Or.inl ⟨by rfl, ?y2⟩) hHeld ?r2
      case y2 => (intro W hSW; obtain ⟨q0, q1, q2, q3, q4, -⟩ := hSW; go_simp; try with_reducible rfl)
      simp only [Act.put, List.setIfInBounds_toArray, List.set_cons_zero, List.set_cons_succ]
      refine wpAnyH_ready (rs := [2]) (by kernel_rfl) (by simp) (AllReadyH.cons (o := Oper.mk (some 29) _ _ _ _ _) rfl (fun K hK => ?_) AllReadyH.nil)
      go_simp
      refine (specFactOk_any kd va vc L _ HSk.out.1 hHeld.2.2.2.2.2.2.1 HSk.out.2.2 HLk.out).mono ?_
      rintro e w3 ⟨rfl, hb3⟩
      refine hK.out _ _ (keep5P hSF hb3 hHeld) (fun hHeld => ?_)
      clear hK K
      cases hf : factB kd L
      · have HF := hide (HW.out (HNo.out (fun h => by rw [hf] at h; exact absurd h.2.2 (by simp))))
        clear hf
        refine wpAnyH_take (i := 3) (oi := Oper.mk (some 30) _ _ _ _ _) (v := ?v3) rfl (by kernel_rfl) (by kernel_rfl) (by kernel_rfl) (fun _ _ _ h => h) (Or.inl ⟨by rfl, ?y3⟩) hHeld ?r3
        case y3 => (intro W hSW; obtain ⟨q0, q1, q2, q3, q4, -⟩ := hSW; go_simp; try with_reducible rfl)
        simp only [Act.put, List.setIfInBounds_toArray, List.set_cons_zero, List.set_cons_succ]
        refine wpAnyH_take (i := 4) (oi := Oper.mk (some 31) _ _ _ _ _) (v := ?v4) rfl (by kernel_rfl) (by kernel_rfl) (by kernel_rfl) (fun _ _ _ h => h) (Or.inl ⟨by rfl, ?y4⟩) hHeld ?r4
        case y4 => (intro W hSW; obtain ⟨q0, q1, q2, q3, q4, -⟩ := hSW; go_simp; try with_reducible rfl)
        simp only [Act.put, List.setIfInBounds_toArray, List.set_cons_zero, List.set_cons_succ]
        refine wpAnyH_take (i := 5) (oi := Oper.mk (some 32) _ _ _ _ _) (v := undef) rfl (by kernel_rfl) (by kernel_rfl) (by kernel_rfl) (fun _ _ _ h => h) (Or.inr ⟨by rfl, rfl⟩) hHeld ?_
        simp only [Act.put, List.setIfInBounds_toArray, List.set_cons_zero, List.set_cons_succ]
        refine wpAnyH_take (i := 6) (oi := Oper.mk (some 33) _ _ _ _ _) (v := undef) rfl (by kernel_rfl) (by kernel_rfl) (by kernel_rfl) (fun _ _ _ h => h) (Or.inr ⟨by rfl, rfl⟩) hHeld ?_
        simp only [Act.put, List.setIfInBounds_toArray, List.set_cons_zero, List.set_cons_succ]
        refine wpAnyH_take (i := 7) (oi := Oper.mk (some 34) _ _ _ _ _) (v := undef) rfl (by kernel_rfl) (by kernel_rfl) (by kernel_rfl) (fun _ _ _ h => h) (Or.inr ⟨by rfl, rfl⟩) hHeld ?_
        simp only [Act.put, List.setIfInBounds_toArray, List.set_cons_zero, List.set_cons_succ]
        refine wpAnyH_take (i := 8) (oi := Oper.mk (some 35) _ _ _ _ _) (v := ?v5) rfl (by kernel_rfl) (by kernel_rfl) (by kernel_rfl) (fun _ _ _ h => h) (Or.inl ⟨by rfl, ?y5⟩) hHeld ?r5
        case y5 => (intro W hSW; obtain ⟨q0, q1, q2, q3, q4, -⟩ := hSW; go_simp; try with_reducible rfl)
        simp only [Act.put, List.setIfInBounds_toArray, List.set_cons_zero, List.set_cons_succ]
        refine wpAnyH_take (i := 9) (oi := Oper.mk (some 36) _ _ _ _ _) (v := ?v6) rfl (by kernel_rfl) (by kernel_rfl) (by kernel_rfl) (fun _ _ _ h => h) (Or.inl ⟨by rfl, ?y6⟩) hHeld ?r6
        case y6 => (intro W hSW; obtain ⟨q0, q1, q2, q3, q4, -⟩ := hSW; go_simp; try with_reducible rfl)
        simp only [Act.put, List.setIfInBounds_toArray, List.set_cons_zero, List.set_cons_succ]
        refine wpAnyH_take (i := 10) (oi := Oper.mk (some 37) _ _ _ _ _) (v := undef) rfl (by kernel_rfl) (by kernel_rfl) (by kernel_rfl) (fun _ _ _ h => h) (Or.inr ⟨by rfl, rfl⟩) hHeld ?_
        simp only [Act.put, List.setIfInBounds_toArray, List.set_cons_zero, List.set_cons_succ]
        refine wpAnyH_take (i := 11) (oi := Oper.mk (some 38) _ _ _ _ _) (v := undef) rfl (by kernel_rfl) (by kernel_rfl) (by kernel_rfl) (fun _ _ _ h => h) (Or.inr ⟨by rfl, rfl⟩) hHeld ?_
        simp only [Act.put, List.setIfInBounds_toArray, List.set_cons_zero, List.set_cons_succ]
        refine wpAnyH_take (i := 12) (oi := Oper.mk (some 39) _ _ _ _ _) (v := undef) rfl (by kernel_rfl) (by kernel_rfl) (by kernel_rfl) (fun _ _ _ h => h) (Or.inr ⟨by rfl, rfl⟩) hHeld ?_
        simp only [Act.put, List.setIfInBounds_toArray, List.set_cons_zero, List.set_cons_succ]
        refine wpAnyH_take (i := 13) (oi := Oper.mk (some 40) _ _ _ _ _) (v := undef) rfl (by kernel_rfl) (by kernel_rfl) (by kernel_rfl) (fun _ _ _ h => h) (Or.inr ⟨by rfl, rfl⟩) hHeld ?_
        simp only [Act.put, List.setIfInBounds_toArray, List.set_cons_zero, List.set_cons_succ]
        refine wpAnyH_take (i := 14) (oi := Oper.mk (some 41) _ _ _ _ _) (v := undef) rfl (by kernel_rfl) (by kernel_rfl) (by kernel_rfl) (fun _ _ _ h => h) (Or.inr ⟨by rfl, rfl⟩) hHeld ?_
        simp only [Act.put, List.setIfInBounds_toArray, List.set_cons_zero, List.set_cons_succ]
        refine wpAnyH_take (i := 15) (oi := Oper.mk (some 42) _ _ _ _ _) (v := ?v7) rfl (by kernel_rfl) (by kernel_rfl) (by kernel_rfl) (fun _ _ _ h => h) (Or.inl ⟨by rfl, ?y7⟩) hHeld ?r7
        case y7 => (intro W hSW; obtain ⟨q0, q1, q2, q3, q4, -⟩ := hSW; go_simp; try with_reducible rfl)
        simp only [Act.put, List.setIfInBounds_toArray, List.set_cons_zero, List.set_cons_succ]
        refine wpAnyH_take (i := 16) (oi := Oper.mk (some 43) _ _ _ _ _) (v := ?v8) rfl (by kernel_rfl) (by kernel_rfl) (by kernel_rfl) (fun _ _ _ h => h) (Or.inl ⟨by rfl, ?y8⟩) hHeld ?r8
        case y8 => (intro W hSW; obtain ⟨q0, q1, q2, q3, q4, -⟩ := hSW; go_simp; try with_reducible rfl)
        simp only [Act.put, List.setIfInBounds_toArray, List.set_cons_zero, List.set_cons_succ]
        refine wpAnyH_take (i := 17) (oi := Oper.mk (some 44) _ _ _ _ _) (v := undef) rfl (by kernel_rfl) (by kernel_rfl) (by kernel_rfl) (fun _ _ _ h => h) (Or.inr ⟨by rfl, rfl⟩) hHeld ?_
        simp only [Act.put, List.setIfInBounds_toArray, List.set_cons_zero, List.set_cons_succ]
        refine wpAnyH_take (i := 18) (oi := Oper.mk (some 45) _ _ _ _ _) (v := undef) rfl (by kernel_rfl) (by kernel_rfl) (by kernel_rfl) (fun _ _ _ h => h) (Or.inr ⟨by rfl, rfl⟩) hHeld ?_
        simp only [Act.put, List.setIfInBounds_toArray, List.set_cons_zero, List.set_cons_succ]
        refine wpAnyH_take (i := 19) (oi := Oper.mk (some 46) _ _ _ _ _) (v := undef) rfl (by kernel_rfl) (by kernel_rfl) (by kernel_rfl) (fun _ _ _ h => h) (Or.inr ⟨by rfl, rfl⟩) hHeld ?_
        simp only [Act.put, List.setIfInBounds_toArray, List.set_cons_zero, List.set_cons_succ]
        refine wpAnyH_take (i := 20) (oi := Oper.mk (some 47) _ _ _ _ _) (v := undef) rfl (by kernel_rfl) (by kernel_rfl) (by kernel_rfl) (fun _ _ _ h => h) (Or.inr ⟨by rfl, rfl⟩) hHeld ?_
        simp only [Act.put, List.setIfInBounds_toArray, List.set_cons_zero, List.set_cons_succ]
        refine wpAnyH_take (i := 21) (oi := Oper.mk (some 48) _ _ _ _ _) (v := undef) rfl (by kernel_rfl) (by kernel_rfl) (by kernel_rfl) (fun _ _ _ h => h) (Or.inr ⟨by rfl, rfl⟩) hHeld ?_
        simp only [Act.put, List.setIfInBounds_toArray, List.set_cons_zero, List.set_cons_succ]
        refine wpAnyH_take (i := 22) (oi := Oper.mk (some 49) _ _ _ _ _) (v := undef) rfl (by kernel_rfl) (by kernel_rfl) (by kernel_rfl) (fun _ _ _ h => h) (Or.inr ⟨by rfl, rfl⟩) hHeld ?_
        simp only [Act.put, List.setIfInBounds_toArray, List.set_cons_zero, List.set_cons_succ]
        refine wpAnyH_take (i := 23) (oi := Oper.mk (some 50) _ _ _ _ _) (v := undef) rfl (by kernel_rfl) (by kernel_rfl) (by kernel_rfl) (fun _ _ _ h => h) (Or.inr ⟨by rfl, rfl⟩) hHeld ?_
        simp only [Act.put, List.setIfInBounds_toArray, List.set_cons_zero, List.set_cons_succ]
        refine wpAnyH_take (i := 24) (oi := Oper.mk (some 51) _ _ _ _ _) (v := undef) rfl (by kernel_rfl) (by kernel_rfl) (by kernel_rfl) (fun _ _ _ h => h) (Or.inr ⟨by rfl, rfl⟩) hHeld ?_
        simp only [Act.put, List.setIfInBounds_toArray, List.set_cons_zero, List.set_cons_succ]
        refine wpAnyH_take (i := 25) (oi := Oper.mk (some 52) _ _ _ _ _) (v := undef) rfl (by kernel_rfl) (by kernel_rfl) (by kernel_rfl) (fun _ _ _ h => h) (Or.inr ⟨by rfl, rfl⟩) hHeld ?_
        simp only [Act.put, List.setIfInBounds_toArray, List.set_cons_zero, List.set_cons_succ]
        refine wpAnyH_take (i := 26) (oi := Oper.mk (some 53) _ _ _ _ _) (v := undef) rfl (by kernel_rfl) (by kernel_rfl) (by kernel_rfl) (fun _ _ _ h => h) (Or.inr ⟨by rfl, rfl⟩) hHeld ?_
        simp only [Act.put, List.setIfInBounds_toArray, List.set_cons_zero, List.set_cons_succ]
        refine wpAnyH_take (i := 27) (oi := Oper.mk (some 54) _ _ _ _ _) (v := undef) rfl (by kernel_rfl) (by kernel_rfl) (by kernel_rfl) (fun _ _ _ h => h) (Or.inr ⟨by rfl, rfl⟩) hHeld ?_
        simp only [Act.put, List.setIfInBounds_toArray, List.set_cons_zero, List.set_cons_succ]
        refine wpAnyH_take (i := 28) (oi := Oper.mk (some 55) _ _ _ _ _) (v := undef) rfl (by kernel_rfl) (by kernel_rfl) (by kernel_rfl) (fun _ _ _ h => h) (Or.inr ⟨by rfl, rfl⟩) hHeld ?_
        simp only [Act.put, List.setIfInBounds_toArray, List.set_cons_zero, List.set_cons_succ]
        refine wpAnyH_take (i := 29) (oi := Oper.mk (some 56) _ _ _ _ _) (v := undef) rfl (by kernel_rfl) (by kernel_rfl) (by kernel_rfl) (fun _ _ _ h => h) (Or.inr ⟨by rfl, rfl⟩) hHeld ?_
        simp only [Act.put, List.setIfInBounds_toArray, List.set_cons_zero, List.set_cons_succ]
        refine wpAnyH_take (i := 30) (oi := Oper.mk (some 57) _ _ _ _ _) (v := undef) rfl (by kernel_rfl) (by kernel_rfl) (by kernel_rfl) (fun _ _ _ h => h) (Or.inr ⟨by rfl, rfl⟩) hHeld ?_
        simp only [Act.put, List.setIfInBounds_toArray, List.set_cons_zero, List.set_cons_succ]
        refine wpAnyH_take (i := 31) (oi := Oper.mk (some 58) _ _ _ _ _) (v := ?v9) rfl (by kernel_rfl) (by kernel_rfl) (by kernel_rfl) (fun _ _ _ h => h) (Or.inl ⟨by rfl, ?y9⟩) hHeld ?r9
        case y9 => (intro W hSW; obtain ⟨q0, q1, q2, q3, q4, -⟩ := hSW; go_simp; try with_reducible rfl)
        simp only [Act.put, List.setIfInBounds_toArray, List.set_cons_zero, List.set_cons_succ]
        refine wpAnyH_take (i := 32) (oi := Oper.mk (some 59) _ _ _ _ _) (v := ?v10) rfl (by kernel_rfl) (by kernel_rfl) (by kernel_rfl) (fun _ _ _ h => h) (Or.inl ⟨by rfl, ?y10⟩) hHeld ?r10
        case y10 => (intro W hSW; obtain ⟨q0, q1, q2, q3, q4, -⟩ := hSW; go_simp; try with_reducible rfl)
        simp only [Act.put, List.setIfInBounds_toArray, List.set_cons_zero, List.set_cons_succ]
        refine wpAnyH_take (i := 33) (oi := Oper.mk (some 60) _ _ _ _ _) (v := undef) rfl (by kernel_rfl) (by kernel_rfl) (by kernel_rfl) (fun _ _ _ h => h) (Or.inr ⟨by rfl, rfl⟩) hHeld ?_
        simp only [Act.put, List.setIfInBounds_toArray, List.set_cons_zero, List.set_cons_succ]
        refine wpAnyH_take (i := 34) (oi := Oper.mk (some 61) _ _ _ _ _) (v := undef) rfl (by kernel_rfl) (by kernel_rfl) (by kernel_rfl) (fun _ _ _ h => h) (Or.inr ⟨by rfl, rfl⟩) hHeld ?_
        simp only [Act.put, List.setIfInBounds_toArray, List.set_cons_zero, List.set_cons_succ]
        refine wpAnyH_take (i := 35) (oi := Oper.mk (some 62) _ _ _ _ _) (v := undef) rfl (by kernel_rfl) (by kernel_rfl) (by kernel_rfl) (fun _ _ _ h => h) (Or.inr ⟨by rfl, rfl⟩) hHeld ?_
        simp only [Act.put, List.setIfInBounds_toArray, List.set_cons_zero, List.set_cons_succ]
        refine wpAnyH_take (i := 36) (oi := Oper.mk (some 63) _ _ _ _ _) (v := undef) rfl (by kernel_rfl) (by kernel_rfl) (by kernel_rfl) (fun _ _ _ h => h) (Or.inr ⟨by rfl, rfl⟩) hHeld ?_
        simp only [Act.put, List.setIfInBounds_toArray, List.set_cons_zero, List.set_cons_succ]
        refine wpAnyH_take (i := 37) (oi := Oper.mk (some 64) _ _ _ _ _) (v := undef) rfl (by kernel_rfl) (by kernel_rfl) (by kernel_rfl) (fun _ _ _ h => h) (Or.inr ⟨by rfl, rfl⟩) hHeld ?_
        simp only [Act.put, List.setIfInBounds_toArray, List.set_cons_zero, List.set_cons_succ]
        refine wpAnyH_take (i := 38) (oi := Oper.mk (some 65) _ _ _ _ _) (v := undef) rfl (by kernel_rfl) (by kernel_rfl) (by kernel_rfl) (fun _ _ _ h => h) (Or.inr ⟨by rfl, rfl⟩) hHeld ?_
        simp only [Act.put, List.setIfInBounds_toArray, List.set_cons_zero, List.set_cons_succ]
        refine wpAnyH_take (i := 39) (oi := Oper.mk (some 66) _ _ _ _ _) (v := undef) rfl (by kernel_rfl) (by kernel_rfl) (by kernel_rfl) (fun _ _ _ h => h) (Or.inr ⟨by rfl, rfl⟩) hHeld ?_
        simp only [Act.put, List.setIfInBounds_toArray, List.set_cons_zero, List.set_cons_succ]
        refine wpAnyH_take (i := 40) (oi := Oper.mk (some 67) _ _ _ _ _) (v := ?v11) rfl (by kernel_rfl) (by kernel_rfl) (by kernel_rfl) (fun _ _ _ h => h) (Or.inl ⟨by rfl, ?y11⟩) hHeld ?r11
        case y11 => (intro W hSW; obtain ⟨q0, q1, q2, q3, q4, -⟩ := hSW; go_simp; try with_reducible rfl)
        simp only [Act.put, List.setIfInBounds_toArray, List.set_cons_zero, List.set_cons_succ]
        refine wpAnyH_done (by kernel_rfl) ?_ _
        have B3 : Below w.heap.size w w3 := hB1.trans ((below_dr hb3).mono hB1.size)
        go_wp2
        go_ret
        exact ⟨ret_bool HF.out.symm, B3⟩
      · have HFf := hide hf
        clear hf
        refine wpAnyH_take (i := 3) (oi := Oper.mk (some 30) _ _ _ _ _) (v := ?v12) rfl (by kernel_rfl) (by kernel_rfl) (by kernel_rfl) (fun _ _ _ h => h) (Or.inl ⟨by rfl, ?y12⟩) hHeld ?r12
        case y12 => (intro W hSW; obtain ⟨q0, q1, q2, q3, q4, -⟩ := hSW; go_simp; try with_reducible rfl)
        simp only [Act.put, List.setIfInBounds_toArray, List.set_cons_zero, List.set_cons_succ]
        refine wpAnyH_take (i := 4) (oi := Oper.mk (some 31) _ _ _ _ _) (v := ?v13) rfl (by kernel_rfl) (by kernel_rfl) (by kernel_rfl) (fun _ _ _ h => h) (Or.inl ⟨by rfl, ?y13⟩) hHeld ?r13
        case y13 => (intro W hSW; obtain ⟨q0, q1, q2, q3, q4, -⟩ := hSW; go_simp; try with_reducible rfl)
        simp only [Act.put, List.setIfInBounds_toArray, List.set_cons_zero, List.set_cons_succ]
        refine wpAnyH_take (i := 5) (oi := Oper.mk (some 32) _ _ _ _ _) (v := ?v14) rfl (by kernel_rfl) (by kernel_rfl) (by kernel_rfl) (fun _ _ _ h => h) (Or.inl ⟨by rfl, ?y14⟩) hHeld ?r14
        case y14 => (intro W hSW; obtain ⟨q0, q1, q2, q3, q4, -⟩ := hSW; go_simp; try with_reducible rfl)
        simp only [Act.put, List.setIfInBounds_toArray, List.set_cons_zero, List.set_cons_succ]
        refine wpAnyH_take (i := 6) (oi := Oper.mk (some 33) _ _ _ _ _) (v := ?v15) rfl (by kernel_rfl) (by kernel_rfl) (by kernel_rfl) (fun _ _ _ h => h) (Or.inl ⟨by rfl, ?y15⟩) hHeld ?r15
        case y15 => (intro W hSW; obtain ⟨q0, q1, q2, q3, q4, -⟩ := hSW; go_simp; try with_reducible rfl)
        simp only [Act.put, List.setIfInBounds_toArray, List.set_cons_zero, List.set_cons_succ]
        by_cases h1 : id < 1
        · have HF := hide (HW.out (HNo.out (fun h => by omega)))
          refine wpAnyH_take (i := 7) (oi := Oper.mk (some 34) _ _ _ _ _) (v := ?v16) rfl (by kernel_rfl) (by kernel_rfl) (by kernel_rfl) (fun _ _ _ h => h) (Or.inl ⟨by rfl, ?y16⟩) hHeld ?r16
          case y16 => (intro W hSW; obtain ⟨q0, q1, q2, q3, q4, -⟩ := hSW; go_simp; try with_reducible rfl)
          simp only [Act.put, List.setIfInBounds_toArray, List.set_cons_zero, List.set_cons_succ]
          refine wpAnyH_take (i := 8) (oi := Oper.mk (some 35) _ _ _ _ _) (v := ?v17) rfl (by kernel_rfl) (by kernel_rfl) (by kernel_rfl) (fun _ _ _ h => h) (Or.inl ⟨by rfl, ?y17⟩) hHeld ?r17
          case y17 => (intro W hSW; obtain ⟨q0, q1, q2, q3, q4, -⟩ := hSW; go_simp; try with_reducible rfl)
          simp only [Act.put, List.setIfInBounds_toArray, List.set_cons_zero, List.set_cons_succ]
          refine wpAnyH_take (i := 9) (oi := Oper.mk (some 36) _ _ _ _ _) (v := ?v18) rfl (by kernel_rfl) (by kernel_rfl) (by kernel_rfl) (fun _ _ _ h => h) (Or.inl ⟨by rfl, ?y18⟩) hHeld ?r18
          case y18 => (intro W hSW; obtain ⟨q0, q1, q2, q3, q4, -⟩ := hSW; go_simp; try with_reducible rfl)
          simp only [Act.put, List.setIfInBounds_toArray, List.set_cons_zero, List.set_cons_succ]
          refine wpAnyH_take (i := 10) (oi := Oper.mk (some 37) _ _ _ _ _) (v := undef) rfl (by kernel_rfl) (by kernel_rfl) (by kernel_rfl) (fun _ _ _ h => h) (Or.inr ⟨by rfl, rfl⟩) hHeld ?_
          simp only [Act.put, List.setIfInBounds_toArray, List.set_cons_zero, List.set_cons_succ]
          refine wpAnyH_take (i := 11) (oi := Oper.mk (some 38) _ _ _ _ _) (v := undef) rfl (by kernel_rfl) (by kernel_rfl) (by kernel_rfl) (fun _ _ _ h => h) (Or.inr ⟨by rfl, rfl⟩) hHeld ?_
          simp only [Act.put, List.setIfInBounds_toArray, List.set_cons_zero, List.set_cons_succ]
          refine wpAnyH_take (i := 12) (oi := Oper.mk (some 39) _ _ _ _ _) (v := undef) rfl (by kernel_rfl) (by kernel_rfl) (by kernel_rfl) (fun _ _ _ h => h) (Or.inr ⟨by rfl, rfl⟩) hHeld ?_
          simp only [Act.put, List.setIfInBounds_toArray, List.set_cons_zero, List.set_cons_succ]
          refine wpAnyH_take (i := 13) (oi := Oper.mk (some 40) _ _ _ _ _) (v := undef) rfl (by kernel_rfl) (by kernel_rfl) (by kernel_rfl) (fun _ _ _ h => h) (Or.inr ⟨by rfl, rfl⟩) hHeld ?_
          simp only [Act.put, List.setIfInBounds_toArray, List.set_cons_zero, List.set_cons_succ]
          refine wpAnyH_take (i := 14) (oi := Oper.mk (some 41) _ _ _ _ _) (v := undef) rfl (by kernel_rfl) (by kernel_rfl) (by kernel_rfl) (fun _ _ _ h => h) (Or.inr ⟨by rfl, rfl⟩) hHeld ?_
          simp only [Act.put, List.setIfInBounds_toArray, List.set_cons_zero, List.set_cons_succ]
          refine wpAnyH_take (i := 15) (oi := Oper.mk (some 42) _ _ _ _ _) (v := ?v19) rfl (by kernel_rfl) (by kernel_rfl) (by kernel_rfl) (fun _ _ _ h => h) (Or.inl ⟨by rfl, ?y19⟩) hHeld ?r19
          case y19 => (intro W hSW; obtain ⟨q0, q1, q2, q3, q4, -⟩ := hSW; go_simp; try with_reducible rfl)
          simp only [Act.put, List.setIfInBounds_toArray, List.set_cons_zero, List.set_cons_succ]
          refine wpAnyH_take (i := 16) (oi := Oper.mk (some 43) _ _ _ _ _) (v := ?v20) rfl (by kernel_rfl) (by kernel_rfl) (by kernel_rfl) (fun _ _ _ h => h) (Or.inl ⟨by rfl, ?y20⟩) hHeld ?r20
          case y20 => (intro W hSW; obtain ⟨q0, q1, q2, q3, q4, -⟩ := hSW; go_simp; try with_reducible rfl)
          simp only [Act.put, List.setIfInBounds_toArray, List.set_cons_zero, List.set_cons_succ]
          refine wpAnyH_take (i := 17) (oi := Oper.mk (some 44) _ _ _ _ _) (v := undef) rfl (by kernel_rfl) (by kernel_rfl) (by kernel_rfl) (fun _ _ _ h => h) (Or.inr ⟨by rfl, rfl⟩) hHeld ?_
          simp only [Act.put, List.setIfInBounds_toArray, List.set_cons_zero, List.set_cons_succ]
          refine wpAnyH_take (i := 18) (oi := Oper.mk (some 45) _ _ _ _ _) (v := undef) rfl (by kernel_rfl) (by kernel_rfl) (by kernel_rfl) (fun _ _ _ h => h) (Or.inr ⟨by rfl, rfl⟩) hHeld ?_
          simp only [Act.put, List.setIfInBounds_toArray, List.set_cons_zero, List.set_cons_succ]
          refine wpAnyH_take (i := 19) (oi := Oper.mk (some 46) _ _ _ _ _) (v := undef) rfl (by kernel_rfl) (by kernel_rfl) (by kernel_rfl) (fun _ _ _ h => h) (Or.inr ⟨by rfl, rfl⟩) hHeld ?_
          simp only [Act.put, List.setIfInBounds_toArray, List.set_cons_zero, List.set_cons_succ]
          refine wpAnyH_take (i := 20) (oi := Oper.mk (some 47) _ _ _ _ _) (v := undef) rfl (by kernel_rfl) (by kernel_rfl) (by kernel_rfl) (fun _ _ _ h => h) (Or.inr ⟨by rfl, rfl⟩) hHeld ?_
          simp only [Act.put, List.setIfInBounds_toArray, List.set_cons_zero, List.set_cons_succ]
          refine wpAnyH_take (i := 21) (oi := Oper.mk (some 48) _ _ _ _ _) (v := undef) rfl (by kernel_rfl) (by kernel_rfl) (by kernel_rfl) (fun _ _ _ h => h) (Or.inr ⟨by rfl, rfl⟩) hHeld ?_
          simp only [Act.put, List.setIfInBounds_toArray, List.set_cons_zero, List.set_cons_succ]
          refine wpAnyH_take (i := 22) (oi := Oper.mk (some 49) _ _ _ _ _) (v := undef) rfl (by kernel_rfl) (by kernel_rfl) (by kernel_rfl) (fun _ _ _ h => h) (Or.inr ⟨by rfl, rfl⟩) hHeld ?_
          simp only [Act.put, List.setIfInBounds_toArray, List.set_cons_zero, List.set_cons_succ]
          refine wpAnyH_take (i := 23) (oi := Oper.mk (some 50) _ _ _ _ _) (v := undef) rfl (by kernel_rfl) (by kernel_rfl) (by kernel_rfl) (fun _ _ _ h => h) (Or.inr ⟨by rfl, rfl⟩) hHeld ?_
          simp only [Act.put, List.setIfInBounds_toArray, List.set_cons_zero, List.set_cons_succ]
          refine wpAnyH_take (i := 24) (oi := Oper.mk (some 51) _ _ _ _ _) (v := undef) rfl (by kernel_rfl) (by kernel_rfl) (by kernel_rfl) (fun _ _ _ h => h) (Or.inr ⟨by rfl, rfl⟩) hHeld ?_
          simp only [Act.put, List.setIfInBounds_toArray, List.set_cons_zero, List.set_cons_succ]
          refine wpAnyH_take (i := 25) (oi := Oper.mk (some 52) _ _ _ _ _) (v := undef) rfl (by kernel_rfl) (by kernel_rfl) (by kernel_rfl) (fun _ _ _ h => h) (Or.inr ⟨by rfl, rfl⟩) hHeld ?_
          simp only [Act.put, List.setIfInBounds_toArray, List.set_cons_zero, List.set_cons_succ]
          refine wpAnyH_take (i := 26) (oi := Oper.mk (some 53) _ _ _ _ _) (v := undef) rfl (by kernel_rfl) (by kernel_rfl) (by kernel_rfl) (fun _ _ _ h => h) (Or.inr ⟨by rfl, rfl⟩) hHeld ?_
          simp only [Act.put, List.setIfInBounds_toArray, List.set_cons_zero, List.set_cons_succ]
          refine wpAnyH_take (i := 27) (oi := Oper.mk (some 54) _ _ _ _ _) (v := undef) rfl (by kernel_rfl) (by kernel_rfl) (by kernel_rfl) (fun _ _ _ h => h) (Or.inr ⟨by rfl, rfl⟩) hHeld ?_
          simp only [Act.put, List.setIfInBounds_toArray, List.set_cons_zero, List.set_cons_succ]
          refine wpAnyH_take (i := 28) (oi := Oper.mk (some 55) _ _ _ _ _) (v := undef) rfl (by kernel_rfl) (by kernel_rfl) (by kernel_rfl) (fun _ _ _ h => h) (Or.inr ⟨by rfl, rfl⟩) hHeld ?_
          simp only [Act.put, List.setIfInBounds_toArray, List.set_cons_zero, List.set_cons_succ]
          refine wpAnyH_take (i := 29) (oi := Oper.mk (some 56) _ _ _ _ _) (v := undef) rfl (by kernel_rfl) (by kernel_rfl) (by kernel_rfl) (fun _ _ _ h => h) (Or.inr ⟨by rfl, rfl⟩) hHeld ?_
          simp only [Act.put, List.setIfInBounds_toArray, List.set_cons_zero, List.set_cons_succ]
          refine wpAnyH_take (i := 30) (oi := Oper.mk (some 57) _ _ _ _ _) (v := undef) rfl (by kernel_rfl) (by kernel_rfl) (by kernel_rfl) (fun _ _ _ h => h) (Or.inr ⟨by rfl, rfl⟩) hHeld ?_
          simp only [Act.put, List.setIfInBounds_toArray, List.set_cons_zero, List.set_cons_succ]
          refine wpAnyH_take (i := 31) (oi := Oper.mk (some 58) _ _ _ _ _) (v := ?v21) rfl (by kernel_rfl) (by kernel_rfl) (by kernel_rfl) (fun _ _ _ h => h) (Or.inl ⟨by rfl, ?y21⟩) hHeld ?r21
          case y21 => (intro W hSW; obtain ⟨q0, q1, q2, q3, q4, -⟩ := hSW; go_simp; try with_reducible rfl)
          simp only [Act.put, List.setIfInBounds_toArray, List.set_cons_zero, List.set_cons_succ]
          refine wpAnyH_take (i := 32) (oi := Oper.mk (some 59) _ _ _ _ _) (v := ?v22) rfl (by kernel_rfl) (by kernel_rfl) (by kernel_rfl) (fun _ _ _ h => h) (Or.inl ⟨by rfl, ?y22⟩) hHeld ?r22
          case y22 => (intro W hSW; obtain ⟨q0, q1, q2, q3, q4, -⟩ := hSW; go_simp; try with_reducible rfl)
          simp only [Act.put, List.setIfInBounds_toArray, List.set_cons_zero, List.set_cons_succ]
          refine wpAnyH_take (i := 33) (oi := Oper.mk (some 60) _ _ _ _ _) (v := undef) rfl (by kernel_rfl) (by kernel_rfl) (by kernel_rfl) (fun _ _ _ h => h) (Or.inr ⟨by rfl, rfl⟩) hHeld ?_
          simp only [Act.put, List.setIfInBounds_toArray, List.set_cons_zero, List.set_cons_succ]
          refine wpAnyH_take (i := 34) (oi := Oper.mk (some 61) _ _ _ _ _) (v := undef) rfl (by kernel_rfl) (by kernel_rfl) (by kernel_rfl) (fun _ _ _ h => h) (Or.inr ⟨by rfl, rfl⟩) hHeld ?_
          simp only [Act.put, List.setIfInBounds_toArray, List.set_cons_zero, List.set_cons_succ]
          refine wpAnyH_take (i := 35) (oi := Oper.mk (some 62) _ _ _ _ _) (v := undef) rfl (by kernel_rfl) (by kernel_rfl) (by kernel_rfl) (fun _ _ _ h => h) (Or.inr ⟨by rfl, rfl⟩) hHeld ?_
          simp only [Act.put, List.setIfInBounds_toArray, List.set_cons_zero, List.set_cons_succ]
          refine wpAnyH_take (i := 36) (oi := Oper.mk (some 63) _ _ _ _ _) (v := undef) rfl (by kernel_rfl) (by kernel_rfl) (by kernel_rfl) (fun _ _ _ h => h) (Or.inr ⟨by rfl, rfl⟩) hHeld ?_
          simp only [Act.put, List.setIfInBounds_toArray, List.set_cons_zero, List.set_cons_succ]
          refine wpAnyH_take (i := 37) (oi := Oper.mk (some 64) _ _ _ _ _) (v := undef) rfl (by kernel_rfl) (by kernel_rfl) (by kernel_rfl) (fun _ _ _ h => h) (Or.inr ⟨by rfl, rfl⟩) hHeld ?_
          simp only [Act.put, List.setIfInBounds_toArray, List.set_cons_zero, List.set_cons_succ]
          refine wpAnyH_take (i := 38) (oi := Oper.mk (some 65) _ _ _ _ _) (v := undef) rfl (by kernel_rfl) (by kernel_rfl) (by kernel_rfl) (fun _ _ _ h => h) (Or.inr ⟨by rfl, rfl⟩) hHeld ?_
          simp only [Act.put, List.setIfInBounds_toArray, List.set_cons_zero, List.set_cons_succ]
          refine wpAnyH_take (i := 39) (oi := Oper.mk (some 66) _ _ _ _ _) (v := undef) rfl (by kernel_rfl) (by kernel_rfl) (by kernel_rfl) (fun _ _ _ h => h) (Or.inr ⟨by rfl, rfl⟩) hHeld ?_
          simp only [Act.put, List.setIfInBounds_toArray, List.set_cons_zero, List.set_cons_succ]
          refine wpAnyH_take (i := 40) (oi := Oper.mk (some 67) _ _ _ _ _) (v := ?v23) rfl (by kernel_rfl) (by kernel_rfl) (by kernel_rfl) (fun _ _ _ h => h) (Or.inl ⟨by rfl, ?y23⟩) hHeld ?r23
          case y23 => (intro W hSW; obtain ⟨q0, q1, q2, q3, q4, -⟩ := hSW; go_simp; try with_reducible rfl)
          simp only [Act.put, List.setIfInBounds_toArray, List.set_cons_zero, List.set_cons_succ]
          refine wpAnyH_done (by kernel_rfl) ?_ _
          have B3 : Below w.heap.size w w3 := hB1.trans ((below_dr hb3).mono hB1.size)
          go_wp2
          go_ret
          exact ⟨ret_bool HF.out.symm, B3⟩
        · have h1d : decide (id < 1) = false := by simpa using h1
          refine wpAnyH_take (i := 7) (oi := Oper.mk (some 34) _ _ _ _ _) (v := ?v24) rfl (by kernel_rfl) (by kernel_rfl) (by kernel_rfl) (fun _ _ _ h => h) (Or.inl ⟨by rfl, ?y24⟩) hHeld ?r24
          case y24 => (intro W hSW; obtain ⟨q0, q1, q2, q3, q4, -⟩ := hSW; go_simp; try with_reducible rfl)
          simp only [Act.put, List.setIfInBounds_toArray, List.set_cons_zero, List.set_cons_succ]
          refine wpAnyH_take (i := 8) (oi := Oper.mk (some 35) _ _ _ _ _) (v := ?v25) rfl (by kernel_rfl) (by kernel_rfl) (by kernel_rfl) (fun _ _ _ h => h) (Or.inl ⟨by rfl, ?y25⟩) hHeld ?r25
          case y25 => (intro W hSW; obtain ⟨q0, q1, q2, q3, q4, -⟩ := hSW; go_simp; try with_reducible rfl)
          simp only [Act.put, List.setIfInBounds_toArray, List.set_cons_zero, List.set_cons_succ]
          refine wpAnyH_take (i := 9) (oi := Oper.mk (some 36) _ _ _ _ _) (v := ?v26) rfl (by kernel_rfl) (by kernel_rfl) (by kernel_rfl) (fun _ _ _ h => h) (Or.inl ⟨by rfl, ?y26⟩) hHeld ?r26
          case y26 => (intro W hSW; obtain ⟨q0, q1, q2, q3, q4, -⟩ := hSW; go_simp; try with_reducible rfl)
          simp only [Act.put, List.setIfInBounds_toArray, List.set_cons_zero, List.set_cons_succ]
          refine wpAnyH_take (i := 10) (oi := Oper.mk (some 37) _ _ _ _ _) (v := ?v27) rfl (by kernel_rfl) (by kernel_rfl) (by kernel_rfl) (fun _ _ _ h => h) (Or.inl ⟨by rfl, ?y27⟩) hHeld ?r27
          case y27 => (intro W hSW; obtain ⟨q0, q1, q2, q3, q4, -⟩ := hSW; go_simp; try with_reducible rfl)
          simp only [Act.put, List.setIfInBounds_toArray, List.set_cons_zero, List.set_cons_succ]
          refine wpAnyH_take (i := 11) (oi := Oper.mk (some 38) _ _ _ _ _) (v := ?v28) rfl (by kernel_rfl) (by kernel_rfl) (by kernel_rfl) (fun _ _ _ h => h) (Or.inl ⟨by rfl, ?y28⟩) hHeld ?r28
          case y28 => (intro W hSW; obtain ⟨q0, q1, q2, q3, q4, -⟩ := hSW; go_simp; try with_reducible rfl)
          simp only [Act.put, List.setIfInBounds_toArray, List.set_cons_zero, List.set_cons_succ]
          refine wpAnyH_take (i := 12) (oi := Oper.mk (some 39) _ _ _ _ _) (v := ?v29) rfl (by kernel_rfl) (by kernel_rfl) (by kernel_rfl) (fun _ _ _ h => h) (Or.inl ⟨by rfl, ?y29⟩) hHeld ?r29
          case y29 => (intro W hSW; obtain ⟨q0, q1, q2, q3, q4, -⟩ := hSW; go_simp; try with_reducible rfl)
          simp only [Act.put, List.setIfInBounds_toArray, List.set_cons_zero, List.set_cons_succ]
          refine wpAnyH_take (i := 13) (oi := Oper.mk (some 40) _ _ _ _ _) (v := ?v30) rfl (by kernel_rfl) (by kernel_rfl) (by kernel_rfl) (fun _ _ _ h => h) (Or.inl ⟨by rfl, ?y30⟩) hHeld ?r30
          case y30 => (intro W hSW; obtain ⟨q0, q1, q2, q3, q4, -⟩ := hSW; go_simp; try with_reducible rfl)
          simp only [Act.put, List.setIfInBounds_toArray, List.set_cons_zero, List.set_cons_succ]
          by_cases h2 : nx ≤ id
          · have HF := hide (HW.out (HNo.out (fun h => by omega)))
            refine wpAnyH_take (i := 14) (oi := Oper.mk (some 41) _ _ _ _ _) (v := ?v31) rfl (by kernel_rfl) (by kernel_rfl) (by kernel_rfl) (fun _ _ _ h => h) (Or.inl ⟨by rfl, ?y31⟩) hHeld ?r31
            case y31 => (intro W hSW; obtain ⟨q0, q1, q2, q3, q4, -⟩ := hSW; go_simp; try with_reducible rfl)
            simp only [Act.put, List.setIfInBounds_toArray, List.set_cons_zero, List.set_cons_succ]
            refine wpAnyH_take (i := 15) (oi := Oper.mk (some 42) _ _ _ _ _) (v := ?v32) rfl (by kernel_rfl) (by kernel_rfl) (by kernel_rfl) (fun _ _ _ h => h) (Or.inl ⟨by rfl, ?y32⟩) hHeld ?r32
            case y32 => (intro W hSW; obtain ⟨q0, q1, q2, q3, q4, -⟩ := hSW; go_simp; try with_reducible rfl)
            simp only [Act.put, List.setIfInBounds_toArray, List.set_cons_zero, List.set_cons_succ]
            refine wpAnyH_take (i := 16) (oi := Oper.mk (some 43) _ _ _ _ _) (v := ?v33) rfl (by kernel_rfl) (by kernel_rfl) (by kernel_rfl) (fun _ _ _ h => h) (Or.inl ⟨by rfl, ?y33⟩) hHeld ?r33
            case y33 => (intro W hSW; obtain ⟨q0, q1, q2, q3, q4, -⟩ := hSW; go_simp; try with_reducible rfl)
            simp only [Act.put, List.setIfInBounds_toArray, List.set_cons_zero, List.set_cons_succ]
            refine wpAnyH_take (i := 17) (oi := Oper.mk (some 44) _ _ _ _ _) (v := undef) rfl (by kernel_rfl) (by kernel_rfl) (by kernel_rfl) (fun _ _ _ h => h) (Or.inr ⟨by rfl, rfl⟩) hHeld ?_
            simp only [Act.put, List.setIfInBounds_toArray, List.set_cons_zero, List.set_cons_succ]
            refine wpAnyH_take (i := 18) (oi := Oper.mk (some 45) _ _ _ _ _) (v := undef) rfl (by kernel_rfl) (by kernel_rfl) (by kernel_rfl) (fun _ _ _ h => h) (Or.inr ⟨by rfl, rfl⟩) hHeld ?_
            simp only [Act.put, List.setIfInBounds_toArray, List.set_cons_zero, List.set_cons_succ]
            refine wpAnyH_take (i := 19) (oi := Oper.mk (some 46) _ _ _ _ _) (v := undef) rfl (by kernel_rfl) (by kernel_rfl) (by kernel_rfl) (fun _ _ _ h => h) (Or.inr ⟨by rfl, rfl⟩) hHeld ?_
            simp only [Act.put, List.setIfInBounds_toArray, List.set_cons_zero, List.set_cons_succ]
            refine wpAnyH_take (i := 20) (oi := Oper.mk (some 47) _ _ _ _ _) (v := undef) rfl (by kernel_rfl) (by kernel_rfl) (by kernel_rfl) (fun _ _ _ h => h) (Or.inr ⟨by rfl, rfl⟩) hHeld ?_
            simp only [Act.put, List.setIfInBounds_toArray, List.set_cons_zero, List.set_cons_succ]
            refine wpAnyH_take (i := 21) (oi := Oper.mk (some 48) _ _ _ _ _) (v := undef) rfl (by kernel_rfl) (by kernel_rfl) (by kernel_rfl) (fun _ _ _ h => h) (Or.inr ⟨by rfl, rfl⟩) hHeld ?_
            simp only [Act.put, List.setIfInBounds_toArray, List.set_cons_zero, List.set_cons_succ]
            refine wpAnyH_take (i := 22) (oi := Oper.mk (some 49) _ _ _ _ _) (v := undef) rfl (by kernel_rfl) (by kernel_rfl) (by kernel_rfl) (fun _ _ _ h => h) (Or.inr ⟨by rfl, rfl⟩) hHeld ?_
            simp only [Act.put, List.setIfInBounds_toArray, List.set_cons_zero, List.set_cons_succ]
            refine wpAnyH_take (i := 23) (oi := Oper.mk (some 50) _ _ _ _ _) (v := undef) rfl (by kernel_rfl) (by kernel_rfl) (by kernel_rfl) (fun _ _ _ h => h) (Or.inr ⟨by rfl, rfl⟩) hHeld ?_
            simp only [Act.put, List.setIfInBounds_toArray, List.set_cons_zero, List.set_cons_succ]
            refine wpAnyH_take (i := 24) (oi := Oper.mk (some 51) _ _ _ _ _) (v := undef) rfl (by kernel_rfl) (by kernel_rfl) (by kernel_rfl) (fun _ _ _ h => h) (Or.inr ⟨by rfl, rfl⟩) hHeld ?_
            simp only [Act.put, List.setIfInBounds_toArray, List.set_cons_zero, List.set_cons_succ]
            refine wpAnyH_take (i := 25) (oi := Oper.mk (some 52) _ _ _ _ _) (v := undef) rfl (by kernel_rfl) (by kernel_rfl) (by kernel_rfl) (fun _ _ _ h => h) (Or.inr ⟨by rfl, rfl⟩) hHeld ?_
            simp only [Act.put, List.setIfInBounds_toArray, List.set_cons_zero, List.set_cons_succ]
            refine wpAnyH_take (i := 26) (oi := Oper.mk (some 53) _ _ _ _ _) (v := undef) rfl (by kernel_rfl) (by kernel_rfl) (by kernel_rfl) (fun _ _ _ h => h) (Or.inr ⟨by rfl, rfl⟩) hHeld ?_
            simp only [Act.put, List.setIfInBounds_toArray, List.set_cons_zero, List.set_cons_succ]
            refine wpAnyH_take (i := 27) (oi := Oper.mk (some 54) _ _ _ _ _) (v := undef) rfl (by kernel_rfl) (by kernel_rfl) (by kernel_rfl) (fun _ _ _ h => h) (Or.inr ⟨by rfl, rfl⟩) hHeld ?_
            simp only [Act.put, List.setIfInBounds_toArray, List.set_cons_zero, List.set_cons_succ]
            refine wpAnyH_take (i := 28) (oi := Oper.mk (some 55) _ _ _ _ _) (v := undef) rfl (by kernel_rfl) (by kernel_rfl) (by kernel_rfl) (fun _ _ _ h => h) (Or.inr ⟨by rfl, rfl⟩) hHeld ?_
            simp only [Act.put, List.setIfInBounds_toArray, List.set_cons_zero, List.set_cons_succ]
            refine wpAnyH_take (i := 29) (oi := Oper.mk (some 56) _ _ _ _ _) (v := undef) rfl (by kernel_rfl) (by kernel_rfl) (by kernel_rfl) (fun _ _ _ h => h) (Or.inr ⟨by rfl, rfl⟩) hHeld ?_
            simp only [Act.put, List.setIfInBounds_toArray, List.set_cons_zero, List.set_cons_succ]
            refine wpAnyH_take (i := 30) (oi := Oper.mk (some 57) _ _ _ _ _) (v := undef) rfl (by kernel_rfl) (by kernel_rfl) (by kernel_rfl) (fun _ _ _ h => h) (Or.inr ⟨by rfl, rfl⟩) hHeld ?_
            simp only [Act.put, List.setIfInBounds_toArray, List.set_cons_zero, List.set_cons_succ]
            refine wpAnyH_take (i := 31) (oi := Oper.mk (some 58) _ _ _ _ _) (v := ?v34) rfl (by kernel_rfl) (by kernel_rfl) (by kernel_rfl) (fun _ _ _ h => h) (Or.inl ⟨by rfl, ?y34⟩) hHeld ?r34
            case y34 => (intro W hSW; obtain ⟨q0, q1, q2, q3, q4, -⟩ := hSW; go_simp; try with_reducible rfl)
            simp only [Act.put, List.setIfInBounds_toArray, List.set_cons_zero, List.set_cons_succ]
            refine wpAnyH_take (i := 32) (oi := Oper.mk (some 59) _ _ _ _ _) (v := ?v35) rfl (by kernel_rfl) (by kernel_rfl) (by kernel_rfl) (fun _ _ _ h => h) (Or.inl ⟨by rfl, ?y35⟩) hHeld ?r35
            case y35 => (intro W hSW; obtain ⟨q0, q1, q2, q3, q4, -⟩ := hSW; go_simp; try with_reducible rfl)
            simp only [Act.put, List.setIfInBounds_toArray, List.set_cons_zero, List.set_cons_succ]
            refine wpAnyH_take (i := 33) (oi := Oper.mk (some 60) _ _ _ _ _) (v := undef) rfl (by kernel_rfl) (by kernel_rfl) (by kernel_rfl) (fun _ _ _ h => h) (Or.inr ⟨by rfl, rfl⟩) hHeld ?_
            simp only [Act.put, List.setIfInBounds_toArray, List.set_cons_zero, List.set_cons_succ]
            refine wpAnyH_take (i := 34) (oi := Oper.mk (some 61) _ _ _ _ _) (v := undef) rfl (by kernel_rfl) (by kernel_rfl) (by kernel_rfl) (fun _ _ _ h => h) (Or.inr ⟨by rfl, rfl⟩) hHeld ?_
            simp only [Act.put, List.setIfInBounds_toArray, List.set_cons_zero, List.set_cons_succ]
            refine wpAnyH_take (i := 35) (oi := Oper.mk (some 62) _ _ _ _ _) (v := undef) rfl (by kernel_rfl) (by kernel_rfl) (by kernel_rfl) (fun _ _ _ h => h) (Or.inr ⟨by rfl, rfl⟩) hHeld ?_
            simp only [Act.put, List.setIfInBounds_toArray, List.set_cons_zero, List.set_cons_succ]
            refine wpAnyH_take (i := 36) (oi := Oper.mk (some 63) _ _ _ _ _) (v := undef) rfl (by kernel_rfl) (by kernel_rfl) (by kernel_rfl) (fun _ _ _ h => h) (Or.inr ⟨by rfl, rfl⟩) hHeld ?_
            simp only [Act.put, List.setIfInBounds_toArray, List.set_cons_zero, List.set_cons_succ]
            refine wpAnyH_take (i := 37) (oi := Oper.mk (some 64) _ _ _ _ _) (v := undef) rfl (by kernel_rfl) (by kernel_rfl) (by kernel_rfl) (fun _ _ _ h => h) (Or.inr ⟨by rfl, rfl⟩) hHeld ?_
            simp only [Act.put, List.setIfInBounds_toArray, List.set_cons_zero, List.set_cons_succ]
            refine wpAnyH_take (i := 38) (oi := Oper.mk (some 65) _ _ _ _ _) (v := undef) rfl (by kernel_rfl) (by kernel_rfl) (by kernel_rfl) (fun _ _ _ h => h) (Or.inr ⟨by rfl, rfl⟩) hHeld ?_
            simp only [Act.put, List.setIfInBounds_toArray, List.set_cons_zero, List.set_cons_succ]
            refine wpAnyH_take (i := 39) (oi := Oper.mk (some 66) _ _ _ _ _) (v := undef) rfl (by kernel_rfl) (by kernel_rfl) (by kernel_rfl) (fun _ _ _ h => h) (Or.inr ⟨by rfl, rfl⟩) hHeld ?_
            simp only [Act.put, List.setIfInBounds_toArray, List.set_cons_zero, List.set_cons_succ]
            refine wpAnyH_take (i := 40) (oi := Oper.mk (some 67) _ _ _ _ _) (v := ?v36) rfl (by kernel_rfl) (by kernel_rfl) (by kernel_rfl) (fun _ _ _ h => h) (Or.inl ⟨by rfl, ?y36⟩) hHeld ?r36
            case y36 => (intro W hSW; obtain ⟨q0, q1, q2, q3, q4, -⟩ := hSW; go_simp; try with_reducible rfl)
            simp only [Act.put, List.setIfInBounds_toArray, List.set_cons_zero, List.set_cons_succ]
            refine wpAnyH_done (by kernel_rfl) ?_ _
            have B3 : Below w.heap.size w w3 := hB1.trans ((below_dr hb3).mono hB1.size)
            go_wp2
            go_ret
            exact ⟨ret_bool HF.out.symm, B3⟩
          · have h2d : decide (nx ≤ id) = false := by simpa using h2
            refine wpAnyH_take (i := 14) (oi := Oper.mk (some 41) _ _ _ _ _) (v := ?v37) rfl (by kernel_rfl) (by kernel_rfl) (by kernel_rfl) (fun _ _ _ h => h) (Or.inl ⟨by rfl, ?y37⟩) hHeld ?r37
            case y37 => (intro W hSW; obtain ⟨q0, q1, q2, q3, q4, -⟩ := hSW; go_simp; try with_reducible rfl)
            simp only [Act.put, List.setIfInBounds_toArray, List.set_cons_zero, List.set_cons_succ]
            refine wpAnyH_take (i := 15) (oi := Oper.mk (some 42) _ _ _ _ _) (v := ?v38) rfl (by kernel_rfl) (by kernel_rfl) (by kernel_rfl) (fun _ _ _ h => h) (Or.inl ⟨by rfl, ?y38⟩) hHeld ?r38
            case y38 => (intro W hSW; obtain ⟨q0, q1, q2, q3, q4, -⟩ := hSW; go_simp; try with_reducible rfl)
            simp only [Act.put, List.setIfInBounds_toArray, List.set_cons_zero, List.set_cons_succ]
            refine wpAnyH_take (i := 16) (oi := Oper.mk (some 43) _ _ _ _ _) (v := ?v39) rfl (by kernel_rfl) (by kernel_rfl) (by kernel_rfl) (fun _ _ _ h => h) (Or.inl ⟨by rfl, ?y39⟩) hHeld ?r39
            case y39 => (intro W hSW; obtain ⟨q0, q1, q2, q3, q4, -⟩ := hSW; go_simp; try with_reducible rfl)
            simp only [Act.put, List.setIfInBounds_toArray, List.set_cons_zero, List.set_cons_succ]
            rcases Nat.eq_zero_or_pos k with hk0 | hk0
            · subst hk0
              have hp0 := HZ.out rfl
              refine wpAnyH_take (i := 17) (oi := Oper.mk (some 44) _ _ _ _ _) (v := ?v40) rfl (by kernel_rfl) (by kernel_rfl) (by kernel_rfl) (fun _ _ _ h => h) (Or.inl ⟨by rfl, ?y40⟩) hHeld ?r40
              case y40 => (intro W hSW; obtain ⟨q0, q1, q2, q3, q4, -⟩ := hSW; go_simp; try with_reducible rfl)
              simp only [Act.put, List.setIfInBounds_toArray, List.set_cons_zero, List.set_cons_succ]
              refine wpAnyH_take (i := 18) (oi := Oper.mk (some 45) _ _ _ _ _) (v := ?v41) rfl (by kernel_rfl) (by kernel_rfl) (by kernel_rfl) (fun _ _ _ h => h) (Or.inl ⟨by rfl, ?y41⟩) hHeld ?r41
              case y41 => (intro W hSW; obtain ⟨q0, q1, q2, q3, q4, -⟩ := hSW; go_simp; try with_reducible rfl)
              simp only [Act.put, List.setIfInBounds_toArray, List.set_cons_zero, List.set_cons_succ]
              refine wpAnyH_take (i := 19) (oi := Oper.mk (some 46) _ _ _ _ _) (v := ?v42) rfl (by kernel_rfl) (by kernel_rfl) (by kernel_rfl) (fun _ _ _ h => h) (Or.inl ⟨by rfl, ?y42⟩) hHeld ?r42
              case y42 => (intro W hSW; obtain ⟨q0, q1, q2, q3, q4, -⟩ := hSW; go_simp; try with_reducible rfl)
              simp only [Act.put, List.setIfInBounds_toArray, List.set_cons_zero, List.set_cons_succ]
              refine wpAnyH_take (i := 20) (oi := Oper.mk (some 47) _ _ _ _ _) (v := undef) rfl (by kernel_rfl) (by kernel_rfl) (by kernel_rfl) (fun _ _ _ h => h) (Or.inr ⟨by rfl, rfl⟩) hHeld ?_
              simp only [Act.put, List.setIfInBounds_toArray, List.set_cons_zero, List.set_cons_succ]
              refine wpAnyH_take (i := 21) (oi := Oper.mk (some 48) _ _ _ _ _) (v := undef) rfl (by kernel_rfl) (by kernel_rfl) (by kernel_rfl) (fun _ _ _ h => h) (Or.inr ⟨by rfl, rfl⟩) hHeld ?_
              simp only [Act.put, List.setIfInBounds_toArray, List.set_cons_zero, List.set_cons_succ]
              refine wpAnyH_take (i := 22) (oi := Oper.mk (some 49) _ _ _ _ _) (v := undef) rfl (by kernel_rfl) (by kernel_rfl) (by kernel_rfl) (fun _ _ _ h => h) (Or.inr ⟨by rfl, rfl⟩) hHeld ?_
              simp only [Act.put, List.setIfInBounds_toArray, List.set_cons_zero, List.set_cons_succ]
              refine wpAnyH_take (i := 23) (oi := Oper.mk (some 50) _ _ _ _ _) (v := undef) rfl (by kernel_rfl) (by kernel_rfl) (by kernel_rfl) (fun _ _ _ h => h) (Or.inr ⟨by rfl, rfl⟩) hHeld ?_
              simp only [Act.put, List.setIfInBounds_toArray, List.set_cons_zero, List.set_cons_succ]
              refine wpAnyH_take (i := 24) (oi := Oper.mk (some 51) _ _ _ _ _) (v := undef) rfl (by kernel_rfl) (by kernel_rfl) (by kernel_rfl) (fun _ _ _ h => h) (Or.inr ⟨by rfl, rfl⟩) hHeld ?_
              simp only [Act.put, List.setIfInBounds_toArray, List.set_cons_zero, List.set_cons_succ]
              refine wpAnyH_take (i := 25) (oi := Oper.mk (some 52) _ _ _ _ _) (v := undef) rfl (by kernel_rfl) (by kernel_rfl) (by kernel_rfl) (fun _ _ _ h => h) (Or.inr ⟨by rfl, rfl⟩) hHeld ?_
              simp only [Act.put, List.setIfInBounds_toArray, List.set_cons_zero, List.set_cons_succ]
              refine wpAnyH_take (i := 26) (oi := Oper.mk (some 53) _ _ _ _ _) (v := undef) rfl (by kernel_rfl) (by kernel_rfl) (by kernel_rfl) (fun _ _ _ h => h) (Or.inr ⟨by rfl, rfl⟩) hHeld ?_
              simp only [Act.put, List.setIfInBounds_toArray, List.set_cons_zero, List.set_cons_succ]
              refine wpAnyH_take (i := 27) (oi := Oper.mk (some 54) _ _ _ _ _) (v := undef) rfl (by kernel_rfl) (by kernel_rfl) (by kernel_rfl) (fun _ _ _ h => h) (Or.inr ⟨by rfl, rfl⟩) hHeld ?_
              simp only [Act.put, List.setIfInBounds_toArray, List.set_cons_zero, List.set_cons_succ]
              refine wpAnyH_take (i := 28) (oi := Oper.mk (some 55) _ _ _ _ _) (v := undef) rfl (by kernel_rfl) (by kernel_rfl) (by kernel_rfl) (fun _ _ _ h => h) (Or.inr ⟨by rfl, rfl⟩) hHeld ?_
              simp only [Act.put, List.setIfInBounds_toArray, List.set_cons_zero, List.set_cons_succ]
              refine wpAnyH_take (i := 29) (oi := Oper.mk (some 56) _ _ _ _ _) (v := undef) rfl (by kernel_rfl) (by kernel_rfl) (by kernel_rfl) (fun _ _ _ h => h) (Or.inr ⟨by rfl, rfl⟩) hHeld ?_
              simp only [Act.put, List.setIfInBounds_toArray, List.set_cons_zero, List.set_cons_succ]
              refine wpAnyH_take (i := 30) (oi := Oper.mk (some 57) _ _ _ _ _) (v := ?v43) rfl (by kernel_rfl) (by kernel_rfl) (by kernel_rfl) (fun _ _ _ h => h) (Or.inl ⟨by rfl, ?y43⟩) hHeld ?r43
              case y43 => (intro W hSW; obtain ⟨q0, q1, q2, q3, q4, -⟩ := hSW; go_simp; try with_reducible rfl)
              simp only [Act.put, List.setIfInBounds_toArray, List.set_cons_zero, List.set_cons_succ]
              refine wpAnyH_take (i := 31) (oi := Oper.mk (some 58) _ _ _ _ _) (v := ?v44) rfl (by kernel_rfl) (by kernel_rfl) (by kernel_rfl) (fun _ _ _ h => h) (Or.inl ⟨by rfl, ?y44⟩) hHeld ?r44
              case y44 => (intro W hSW; obtain ⟨q0, q1, q2, q3, q4, -⟩ := hSW; go_simp; try with_reducible rfl)
              simp only [Act.put, List.setIfInBounds_toArray, List.set_cons_zero, List.set_cons_succ]
              refine wpAnyH_take (i := 32) (oi := Oper.mk (some 59) _ _ _ _ _) (v := ?v45) rfl (by kernel_rfl) (by kernel_rfl) (by kernel_rfl) (fun _ _ _ h => h) (Or.inl ⟨by rfl, ?y45⟩) hHeld ?r45
              case y45 => (intro W hSW; obtain ⟨q0, q1, q2, q3, q4, -⟩ := hSW; go_simp; try with_reducible rfl)
              simp only [Act.put, List.setIfInBounds_toArray, List.set_cons_zero, List.set_cons_succ]
              refine wpAnyH_take (i := 33) (oi := Oper.mk (some 60) _ _ _ _ _) (v := ?v46) rfl (by kernel_rfl) (by kernel_rfl) (by kernel_rfl) (fun _ _ _ h => h) (Or.inl ⟨by rfl, ?y46⟩) hHeld ?r46
              case y46 => (intro W hSW; obtain ⟨q0, q1, q2, q3, q4, -⟩ := hSW; go_simp; try with_reducible rfl)
              simp only [Act.put, List.setIfInBounds_toArray, List.set_cons_zero, List.set_cons_succ]
              refine wpAnyH_take (i := 34) (oi := Oper.mk (some 61) _ _ _ _ _) (v := ?v47) rfl (by kernel_rfl) (by kernel_rfl) (by kernel_rfl) (fun _ _ _ h => h) (Or.inl ⟨by rfl, ?y47⟩) hHeld ?r47
              case y47 => (intro W hSW; obtain ⟨q0, q1, q2, q3, q4, -⟩ := hSW; go_simp; try with_reducible rfl)
              simp only [Act.put, List.setIfInBounds_toArray, List.set_cons_zero, List.set_cons_succ]
              refine wpAnyH_take (i := 35) (oi := Oper.mk (some 62) _ _ _ _ _) (v := ?v48) rfl (by kernel_rfl) (by kernel_rfl) (by kernel_rfl) (fun _ _ _ h => h) (Or.inl ⟨by rfl, ?y48⟩) hHeld ?r48
              case y48 => (intro W hSW; obtain ⟨q0, q1, q2, q3, q4, -⟩ := hSW; go_simp; try with_reducible rfl)
              simp only [Act.put, List.setIfInBounds_toArray, List.set_cons_zero, List.set_cons_succ]
              refine wpAnyH_take (i := 37) (oi := Oper.mk (some 64) _ _ _ _ _) (v := ?v49) rfl (by kernel_rfl) (by kernel_rfl) (by kernel_rfl) (fun _ _ _ h => h) (Or.inl ⟨by rfl, ?y49⟩) hHeld ?r49
              case y49 => (intro W hSW; obtain ⟨q0, q1, q2, q3, q4, -⟩ := hSW; go_simp; try with_reducible rfl)
              simp only [Act.put, List.setIfInBounds_toArray, List.set_cons_zero, List.set_cons_succ]
              refine wpAnyH_take (i := 38) (oi := Oper.mk (some 65) _ _ _ _ _) (v := ?v50) rfl (by kernel_rfl) (by kernel_rfl) (by kernel_rfl) (fun _ _ _ h => h) (Or.inl ⟨by rfl, ?y50⟩) hHeld ?r50
              case y50 => (intro W hSW; obtain ⟨q0, q1, q2, q3, q4, -⟩ := hSW; go_simp; try with_reducible rfl)
              simp only [Act.put, List.setIfInBounds_toArray, List.set_cons_zero, List.set_cons_succ]
              refine wpAnyH_ready (rs := [36]) (by kernel_rfl) (by simp) (AllReadyH.cons (o := Oper.mk (some 63) _ _ _ _ _) rfl (fun K hK => ?_) AllReadyH.nil)
              go_simp
              refine (specIdOf_any _ va n cap vc nx kd J L _ hHeld.2.2.2.2.2.1 hHeld.2.2.2.2.2.2.1 HJ.out hn HL.out HLk.out).mono ?_
              rw [HR.out]
              rintro e w4 ⟨rfl, hb4⟩
              refine hK.out _ _ (keep5P hSF hb4 hHeld) (fun hHeld => ?_)
              clear hK K
              by_cases hRi : R = id
              · have hRd : (R != id) = false := by simp [hRi]
                refine wpAnyH_take (i := 39) (oi := Oper.mk (some 66) _ _ _ _ _) (v := ?v51) rfl (by kernel_rfl) (by kernel_rfl) (by kernel_rfl) (fun _ _ _ h => h) (Or.inl ⟨by rfl, ?y51⟩) hHeld ?r51
                case y51 => (intro W hSW; obtain ⟨q0, q1, q2, q3, q4, -⟩ := hSW; go_simp; try with_reducible rfl)
                simp only [Act.put, List.setIfInBounds_toArray, List.set_cons_zero, List.set_cons_succ]
                refine wpAnyH_take (i := 40) (oi := Oper.mk (some 67) _ _ _ _ _) (v := ?v52) rfl (by kernel_rfl) (by kernel_rfl) (by kernel_rfl) (fun _ _ _ h => h) (Or.inl ⟨by rfl, ?y52⟩) hHeld ?r52
                case y52 => (intro W hSW; obtain ⟨q0, q1, q2, q3, q4, -⟩ := hSW; go_simp; try with_reducible rfl)
                simp only [Act.put, List.setIfInBounds_toArray, List.set_cons_zero, List.set_cons_succ]
                refine wpAnyH_done (by kernel_rfl) ?_ _
                have hbN := hHeld.2.2.2.2.2.2.2.1
                have HO2 := hide (HOkk.out (by omega) (by omega) HFf.out)
                have HI2 : Hid (idP (J.map It.pl) (iAt J 0).kd (iAt J 0).L = (iAt J 0).id) := by unfold Hid; rw [← HX.out]; exact HR.out.trans hRi
                clear hHeld
                go_wp2
                go_roundw
                case rel => exact ⟨0 + 1, by omega, by go_num, fun j hj => by
                  by_cases hjk : j = 0
                  · rw [hjk]; exact ⟨HO2.out, HI2.out⟩
                  · exact HOk.out j (by omega), hbN⟩
                case measure => simp [intOf]; omega
              · have hRd : (R != id) = true := by simp [hRi]
                have HF := hide (HWi.out hRi)
                refine wpAnyH_take (i := 39) (oi := Oper.mk (some 66) _ _ _ _ _) (v := ?v53) rfl (by kernel_rfl) (by kernel_rfl) (by kernel_rfl) (fun _ _ _ h => h) (Or.inl ⟨by rfl, ?y53⟩) hHeld ?r53
                case y53 => (intro W hSW; obtain ⟨q0, q1, q2, q3, q4, -⟩ := hSW; go_simp; try with_reducible rfl)
                simp only [Act.put, List.setIfInBounds_toArray, List.set_cons_zero, List.set_cons_succ]
                refine wpAnyH_take (i := 40) (oi := Oper.mk (some 67) _ _ _ _ _) (v := ?v54) rfl (by kernel_rfl) (by kernel_rfl) (by kernel_rfl) (fun _ _ _ h => h) (Or.inl ⟨by rfl, ?y54⟩) hHeld ?r54
                case y54 => (intro W hSW; obtain ⟨q0, q1, q2, q3, q4, -⟩ := hSW; go_simp; try with_reducible rfl)
                simp only [Act.put, List.setIfInBounds_toArray, List.set_cons_zero, List.set_cons_succ]
                refine wpAnyH_done (by kernel_rfl) ?_ _
                have B3 : Below w.heap.size w w4 := b0.trans (hHeld.2.2.2.2.2.2.2.1.mono b0.size)
                go_wp2
                go_ret
                exact ⟨ret_bool HF.out.symm, B3⟩
            · obtain ⟨m, rfl⟩ : ∃ m, k = m + 1 := ⟨k - 1, by omega⟩
              have l0 : (0 : Int) ≤ (m : Int) := by omega
              have l1 : (m : Int) < (n : Int) := by omega
              have hwm : IntKind.i64.wrap (m : Int) = (m : Int) := by simp [IntKind.wrap, IntKind.bits, IntKind.signed]; omega
              refine wpAnyH_take (i := 17) (oi := Oper.mk (some 44) _ _ _ _ _) (v := ?v55) rfl (by kernel_rfl) (by kernel_rfl) (by kernel_rfl) (fun _ _ _ h => h) (Or.inl ⟨by rfl, ?y55⟩) hHeld ?r55
              case y55 => (intro W hSW; obtain ⟨q0, q1, q2, q3, q4, -⟩ := hSW; go_simp; try with_reducible rfl)
              simp only [Act.put, List.setIfInBounds_toArray, List.set_cons_zero, List.set_cons_succ]
              refine wpAnyH_take (i := 18) (oi := Oper.mk (some 45) _ _ _ _ _) (v := ?v56) rfl (by kernel_rfl) (by kernel_rfl) (by kernel_rfl) (fun _ _ _ h => h) (Or.inl ⟨by rfl, ?y56⟩) hHeld ?r56
              case y56 => (intro W hSW; obtain ⟨q0, q1, q2, q3, q4, -⟩ := hSW; go_simp; try with_reducible rfl)
              simp only [Act.put, List.setIfInBounds_toArray, List.set_cons_zero, List.set_cons_succ]
              refine wpAnyH_take (i := 19) (oi := Oper.mk (some 46) _ _ _ _ _) (v := ?v57) rfl (by kernel_rfl) (by kernel_rfl) (by kernel_rfl) (fun _ _ _ h => h) (Or.inl ⟨by rfl, ?y57⟩) hHeld ?r57
              case y57 => (intro W hSW; obtain ⟨q0, q1, q2, q3, q4, -⟩ := hSW; go_simp; try with_reducible rfl)
              simp only [Act.put, List.setIfInBounds_toArray, List.set_cons_zero, List.set_cons_succ]
              refine wpAnyH_take (i := 20) (oi := Oper.mk (some 47) _ _ _ _ _) (v := ?v58) rfl (by kernel_rfl) (by kernel_rfl) (by kernel_rfl) (fun _ _ _ h => h) (Or.inl ⟨by rfl, ?y58⟩) hHeld ?r58
              case y58 => (intro W hSW; obtain ⟨q0, q1, q2, q3, q4, -⟩ := hSW; go_simp; try with_reducible rfl)
              simp only [Act.put, List.setIfInBounds_toArray, List.set_cons_zero, List.set_cons_succ]
              refine wpAnyH_take (i := 21) (oi := Oper.mk (some 48) _ _ _ _ _) (v := ?v59) rfl (by kernel_rfl) (by kernel_rfl) (by kernel_rfl) (fun _ _ _ h => h) (Or.inl ⟨by rfl, ?y59⟩) hHeld ?r59
              case y59 => (intro W hSW; obtain ⟨q0, q1, q2, q3, q4, -⟩ := hSW; go_simp; try with_reducible rfl)
              simp only [Act.put, List.setIfInBounds_toArray, List.set_cons_zero, List.set_cons_succ]
              refine wpAnyH_take (i := 22) (oi := Oper.mk (some 49) _ _ _ _ _) (v := ?v60) rfl (by kernel_rfl) (by kernel_rfl) (by kernel_rfl) (fun _ _ _ h => h) (Or.inl ⟨by rfl, ?y60⟩) hHeld ?r60
              case y60 => (intro W hSW; obtain ⟨q0, q1, q2, q3, q4, -⟩ := hSW; go_simp; try with_reducible rfl)
              simp only [Act.put, List.setIfInBounds_toArray, List.set_cons_zero, List.set_cons_succ]
              refine wpAnyH_take (i := 23) (oi := Oper.mk (some 50) _ _ _ _ _) (v := ?v61) rfl (by kernel_rfl) (by kernel_rfl) (by kernel_rfl) (fun _ _ _ h => h) (Or.inl ⟨by rfl, ?y61⟩) hHeld ?r61
              case y61 => (intro W hSW; obtain ⟨q0, q1, q2, q3, q4, -⟩ := hSW; go_simp; try with_reducible rfl)
              simp only [Act.put, List.setIfInBounds_toArray, List.set_cons_zero, List.set_cons_succ]
              refine wpAnyH_take (i := 24) (oi := Oper.mk (some 51) _ _ _ _ _) (v := ?v62) rfl (by kernel_rfl) (by kernel_rfl) (by kernel_rfl) (fun _ _ _ h => h) (Or.inl ⟨by rfl, ?y62⟩) hHeld ?r62
              case y62 => (intro W hSW; obtain ⟨q0, q1, q2, q3, q4, -⟩ := hSW; go_simp; try with_reducible rfl)
              simp only [Act.put, List.setIfInBounds_toArray, List.set_cons_zero, List.set_cons_succ]
              refine wpAnyH_take (i := 25) (oi := Oper.mk (some 52) _ _ _ _ _) (v := ?v63) rfl (by kernel_rfl) (by kernel_rfl) (by kernel_rfl) (fun _ _ _ h => h) (Or.inl ⟨by rfl, ?y63⟩) hHeld ?r63
              case y63 => (intro W hSW; obtain ⟨q0, q1, q2, q3, q4, -⟩ := hSW; go_simp; try with_reducible rfl)
              simp only [Act.put, List.setIfInBounds_toArray, List.set_cons_zero, List.set_cons_succ]
              refine wpAnyH_take (i := 26) (oi := Oper.mk (some 53) _ _ _ _ _) (v := ?v64) rfl (by kernel_rfl) (by kernel_rfl) (by kernel_rfl) (fun _ _ _ h => h) (Or.inl ⟨by rfl, ?y64⟩) hHeld ?r64
              case y64 => (intro W hSW; obtain ⟨q0, q1, q2, q3, q4, -, -, -, q5⟩ := hSW; have q6 := q5 (by omega); simp only [Nat.add_sub_cancel] at q6; go_simp; try with_reducible rfl)
              simp only [Act.put, List.setIfInBounds_toArray, List.set_cons_zero, List.set_cons_succ]
              refine wpAnyH_take (i := 27) (oi := Oper.mk (some 54) _ _ _ _ _) (v := ?v65) rfl (by kernel_rfl) (by kernel_rfl) (by kernel_rfl) (fun _ _ _ h => h) (Or.inl ⟨by rfl, ?y65⟩) hHeld ?r65
              case y65 => (intro W hSW; obtain ⟨q0, q1, q2, q3, q4, -⟩ := hSW; go_simp; try with_reducible rfl)
              simp only [Act.put, List.setIfInBounds_toArray, List.set_cons_zero, List.set_cons_succ]
              refine wpAnyH_take (i := 28) (oi := Oper.mk (some 55) _ _ _ _ _) (v := ?v66) rfl (by kernel_rfl) (by kernel_rfl) (by kernel_rfl) (fun _ _ _ h => h) (Or.inl ⟨by rfl, ?y66⟩) hHeld ?r66
              case y66 => (intro W hSW; obtain ⟨q0, q1, q2, q3, q4, -⟩ := hSW; go_simp; try with_reducible rfl)
              simp only [Act.put, List.setIfInBounds_toArray, List.set_cons_zero, List.set_cons_succ]
              by_cases h3 : id ≤ p
              · have HF := hide (HW.out (HNo.out (fun h => by omega)))
                refine wpAnyH_take (i := 29) (oi := Oper.mk (some 56) _ _ _ _ _) (v := ?v67) rfl (by kernel_rfl) (by kernel_rfl) (by kernel_rfl) (fun _ _ _ h => h) (Or.inl ⟨by rfl, ?y67⟩) hHeld ?r67
                case y67 => (intro W hSW; obtain ⟨q0, q1, q2, q3, q4, -⟩ := hSW; go_simp; try with_reducible rfl)
                simp only [Act.put, List.setIfInBounds_toArray, List.set_cons_zero, List.set_cons_succ]
                refine wpAnyH_take (i := 30) (oi := Oper.mk (some 57) _ _ _ _ _) (v := ?v68) rfl (by kernel_rfl) (by kernel_rfl) (by kernel_rfl) (fun _ _ _ h => h) (Or.inl ⟨by rfl, ?y68⟩) hHeld ?r68
                case y68 => (intro W hSW; obtain ⟨q0, q1, q2, q3, q4, -⟩ := hSW; go_simp; try with_reducible rfl)
                simp only [Act.put, List.setIfInBounds_toArray, List.set_cons_zero, List.set_cons_succ]
                refine wpAnyH_take (i := 31) (oi := Oper.mk (some 58) _ _ _ _ _) (v := ?v69) rfl (by kernel_rfl) (by kernel_rfl) (by kernel_rfl) (fun _ _ _ h => h) (Or.inl ⟨by rfl, ?y69⟩) hHeld ?r69
                case y69 => (intro W hSW; obtain ⟨q0, q1, q2, q3, q4, -⟩ := hSW; go_simp; try with_reducible rfl)
                simp only [Act.put, List.setIfInBounds_toArray, List.set_cons_zero, List.set_cons_succ]
                refine wpAnyH_take (i := 32) (oi := Oper.mk (some 59) _ _ _ _ _) (v := ?v70) rfl (by kernel_rfl) (by kernel_rfl) (by kernel_rfl) (fun _ _ _ h => h) (Or.inl ⟨by rfl, ?y70⟩) hHeld ?r70
                case y70 => (intro W hSW; obtain ⟨q0, q1, q2, q3, q4, -⟩ := hSW; go_simp; try with_reducible rfl)
                simp only [Act.put, List.setIfInBounds_toArray, List.set_cons_zero, List.set_cons_succ]
                refine wpAnyH_take (i := 33) (oi := Oper.mk (some 60) _ _ _ _ _) (v := undef) rfl (by kernel_rfl) (by kernel_rfl) (by kernel_rfl) (fun _ _ _ h => h) (Or.inr ⟨by rfl, rfl⟩) hHeld ?_
                simp only [Act.put, List.setIfInBounds_toArray, List.set_cons_zero, List.set_cons_succ]
                refine wpAnyH_take (i := 34) (oi := Oper.mk (some 61) _ _ _ _ _) (v := undef) rfl (by kernel_rfl) (by kernel_rfl) (by kernel_rfl) (fun _ _ _ h => h) (Or.inr ⟨by rfl, rfl⟩) hHeld ?_
                simp only [Act.put, List.setIfInBounds_toArray, List.set_cons_zero, List.set_cons_succ]
                refine wpAnyH_take (i := 35) (oi := Oper.mk (some 62) _ _ _ _ _) (v := undef) rfl (by kernel_rfl) (by kernel_rfl) (by kernel_rfl) (fun _ _ _ h => h) (Or.inr ⟨by rfl, rfl⟩) hHeld ?_
                simp only [Act.put, List.setIfInBounds_toArray, List.set_cons_zero, List.set_cons_succ]
                refine wpAnyH_take (i := 36) (oi := Oper.mk (some 63) _ _ _ _ _) (v := undef) rfl (by kernel_rfl) (by kernel_rfl) (by kernel_rfl) (fun _ _ _ h => h) (Or.inr ⟨by rfl, rfl⟩) hHeld ?_
                simp only [Act.put, List.setIfInBounds_toArray, List.set_cons_zero, List.set_cons_succ]
                refine wpAnyH_take (i := 37) (oi := Oper.mk (some 64) _ _ _ _ _) (v := undef) rfl (by kernel_rfl) (by kernel_rfl) (by kernel_rfl) (fun _ _ _ h => h) (Or.inr ⟨by rfl, rfl⟩) hHeld ?_
                simp only [Act.put, List.setIfInBounds_toArray, List.set_cons_zero, List.set_cons_succ]
                refine wpAnyH_take (i := 38) (oi := Oper.mk (some 65) _ _ _ _ _) (v := undef) rfl (by kernel_rfl) (by kernel_rfl) (by kernel_rfl) (fun _ _ _ h => h) (Or.inr ⟨by rfl, rfl⟩) hHeld ?_
                simp only [Act.put, List.setIfInBounds_toArray, List.set_cons_zero, List.set_cons_succ]
                refine wpAnyH_take (i := 39) (oi := Oper.mk (some 66) _ _ _ _ _) (v := undef) rfl (by kernel_rfl) (by kernel_rfl) (by kernel_rfl) (fun _ _ _ h => h) (Or.inr ⟨by rfl, rfl⟩) hHeld ?_
                simp only [Act.put, List.setIfInBounds_toArray, List.set_cons_zero, List.set_cons_succ]
                refine wpAnyH_take (i := 40) (oi := Oper.mk (some 67) _ _ _ _ _) (v := ?v71) rfl (by kernel_rfl) (by kernel_rfl) (by kernel_rfl) (fun _ _ _ h => h) (Or.inl ⟨by rfl, ?y71⟩) hHeld ?r71
                case y71 => (intro W hSW; obtain ⟨q0, q1, q2, q3, q4, -⟩ := hSW; go_simp; try with_reducible rfl)
                simp only [Act.put, List.setIfInBounds_toArray, List.set_cons_zero, List.set_cons_succ]
                refine wpAnyH_done (by kernel_rfl) ?_ _
                have B3 : Below w.heap.size w w3 := hB1.trans ((below_dr hb3).mono hB1.size)
                go_wp2
                go_ret
                exact ⟨ret_bool HF.out.symm, B3⟩
              · have h3d : decide (id ≤ p) = false := by simpa using h3
                refine wpAnyH_take (i := 29) (oi := Oper.mk (some 56) _ _ _ _ _) (v := ?v72) rfl (by kernel_rfl) (by kernel_rfl) (by kernel_rfl) (fun _ _ _ h => h) (Or.inl ⟨by rfl, ?y72⟩) hHeld ?r72
                case y72 => (intro W hSW; obtain ⟨q0, q1, q2, q3, q4, -⟩ := hSW; go_simp; try with_reducible rfl)
                simp only [Act.put, List.setIfInBounds_toArray, List.set_cons_zero, List.set_cons_succ]
                refine wpAnyH_take (i := 30) (oi := Oper.mk (some 57) _ _ _ _ _) (v := ?v73) rfl (by kernel_rfl) (by kernel_rfl) (by kernel_rfl) (fun _ _ _ h => h) (Or.inl ⟨by rfl, ?y73⟩) hHeld ?r73
                case y73 => (intro W hSW; obtain ⟨q0, q1, q2, q3, q4, -⟩ := hSW; go_simp; try with_reducible rfl)
                simp only [Act.put, List.setIfInBounds_toArray, List.set_cons_zero, List.set_cons_succ]
                refine wpAnyH_take (i := 31) (oi := Oper.mk (some 58) _ _ _ _ _) (v := ?v74) rfl (by kernel_rfl) (by kernel_rfl) (by kernel_rfl) (fun _ _ _ h => h) (Or.inl ⟨by rfl, ?y74⟩) hHeld ?r74
                case y74 => (intro W hSW; obtain ⟨q0, q1, q2, q3, q4, -⟩ := hSW; go_simp; try with_reducible rfl)
                simp only [Act.put, List.setIfInBounds_toArray, List.set_cons_zero, List.set_cons_succ]
                refine wpAnyH_take (i := 32) (oi := Oper.mk (some 59) _ _ _ _ _) (v := ?v75) rfl (by kernel_rfl) (by kernel_rfl) (by kernel_rfl) (fun _ _ _ h => h) (Or.inl ⟨by rfl, ?y75⟩) hHeld ?r75
                case y75 => (intro W hSW; obtain ⟨q0, q1, q2, q3, q4, -⟩ := hSW; go_simp; try with_reducible rfl)
                simp only [Act.put, List.setIfInBounds_toArray, List.set_cons_zero, List.set_cons_succ]
                refine wpAnyH_take (i := 33) (oi := Oper.mk (some 60) _ _ _ _ _) (v := ?v76) rfl (by kernel_rfl) (by kernel_rfl) (by kernel_rfl) (fun _ _ _ h => h) (Or.inl ⟨by rfl, ?y76⟩) hHeld ?r76
                case y76 => (intro W hSW; obtain ⟨q0, q1, q2, q3, q4, -⟩ := hSW; go_simp; try with_reducible rfl)
                simp only [Act.put, List.setIfInBounds_toArray, List.set_cons_zero, List.set_cons_succ]
                refine wpAnyH_take (i := 34) (oi := Oper.mk (some 61) _ _ _ _ _) (v := ?v77) rfl (by kernel_rfl) (by kernel_rfl) (by kernel_rfl) (fun _ _ _ h => h) (Or.inl ⟨by rfl, ?y77⟩) hHeld ?r77
                case y77 => (intro W hSW; obtain ⟨q0, q1, q2, q3, q4, -⟩ := hSW; go_simp; try with_reducible rfl)
                simp only [Act.put, List.setIfInBounds_toArray, List.set_cons_zero, List.set_cons_succ]
                refine wpAnyH_take (i := 35) (oi := Oper.mk (some 62) _ _ _ _ _) (v := ?v78) rfl (by kernel_rfl) (by kernel_rfl) (by kernel_rfl) (fun _ _ _ h => h) (Or.inl ⟨by rfl, ?y78⟩) hHeld ?r78
                case y78 => (intro W hSW; obtain ⟨q0, q1, q2, q3, q4, -⟩ := hSW; go_simp; try with_reducible rfl)
                simp only [Act.put, List.setIfInBounds_toArray, List.set_cons_zero, List.set_cons_succ]
                refine wpAnyH_take (i := 37) (oi := Oper.mk (some 64) _ _ _ _ _) (v := ?v79) rfl (by kernel_rfl) (by kernel_rfl) (by kernel_rfl) (fun _ _ _ h => h) (Or.inl ⟨by rfl, ?y79⟩) hHeld ?r79
                case y79 => (intro W hSW; obtain ⟨q0, q1, q2, q3, q4, -⟩ := hSW; go_simp; try with_reducible rfl)
                simp only [Act.put, List.setIfInBounds_toArray, List.set_cons_zero, List.set_cons_succ]
                refine wpAnyH_take (i := 38) (oi := Oper.mk (some 65) _ _ _ _ _) (v := ?v80) rfl (by kernel_rfl) (by kernel_rfl) (by kernel_rfl) (fun _ _ _ h => h) (Or.inl ⟨by rfl, ?y80⟩) hHeld ?r80
                case y80 => (intro W hSW; obtain ⟨q0, q1, q2, q3, q4, -⟩ := hSW; go_simp; try with_reducible rfl)
                simp only [Act.put, List.setIfInBounds_toArray, List.set_cons_zero, List.set_cons_succ]
                refine wpAnyH_ready (rs := [36]) (by kernel_rfl) (by simp) (AllReadyH.cons (o := Oper.mk (some 63) _ _ _ _ _) rfl (fun K hK => ?_) AllReadyH.nil)
                go_simp
                refine (specIdOf_any _ va n cap vc nx kd J L _ hHeld.2.2.2.2.2.1 hHeld.2.2.2.2.2.2.1 HJ.out hn HL.out HLk.out).mono ?_
                rw [HR.out]
                rintro e w4 ⟨rfl, hb4⟩
                refine hK.out _ _ (keep5P hSF hb4 hHeld) (fun hHeld => ?_)
                clear hK K
                by_cases hRi : R = id
                · have hRd : (R != id) = false := by simp [hRi]
                  refine wpAnyH_take (i := 39) (oi := Oper.mk (some 66) _ _ _ _ _) (v := ?v81) rfl (by kernel_rfl) (by kernel_rfl) (by kernel_rfl) (fun _ _ _ h => h) (Or.inl ⟨by rfl, ?y81⟩) hHeld ?r81
                  case y81 => (intro W hSW; obtain ⟨q0, q1, q2, q3, q4, -⟩ := hSW; go_simp; try with_reducible rfl)
                  simp only [Act.put, List.setIfInBounds_toArray, List.set_cons_zero, List.set_cons_succ]
                  refine wpAnyH_take (i := 40) (oi := Oper.mk (some 67) _ _ _ _ _) (v := ?v82) rfl (by kernel_rfl) (by kernel_rfl) (by kernel_rfl) (fun _ _ _ h => h) (Or.inl ⟨by rfl, ?y82⟩) hHeld ?r82
                  case y82 => (intro W hSW; obtain ⟨q0, q1, q2, q3, q4, -⟩ := hSW; go_simp; try with_reducible rfl)
                  simp only [Act.put, List.setIfInBounds_toArray, List.set_cons_zero, List.set_cons_succ]
                  refine wpAnyH_done (by kernel_rfl) ?_ _
                  have hbN := hHeld.2.2.2.2.2.2.2.1
                  have HO2 := hide (HOkk.out (by omega) (by omega) HFf.out)
                  have HI2 : Hid (idP (J.map It.pl) (iAt J (m + 1)).kd (iAt J (m + 1)).L = (iAt J (m + 1)).id) := by unfold Hid; rw [← HX.out]; exact HR.out.trans hRi
                  clear hHeld
                  go_wp2
                  go_roundw
                  case rel => exact ⟨(m + 1) + 1, by omega, by go_num, fun j hj => by
                    by_cases hjk : j = (m + 1)
                    · rw [hjk]; exact ⟨HO2.out, HI2.out⟩
                    · exact HOk.out j (by omega), hbN⟩
                  case measure => simp [intOf]; omega
                · have hRd : (R != id) = true := by simp [hRi]
                  have HF := hide (HWi.out hRi)
                  refine wpAnyH_take (i := 39) (oi := Oper.mk (some 66) _ _ _ _ _) (v := ?v83) rfl (by kernel_rfl) (by kernel_rfl) (by kernel_rfl) (fun _ _ _ h => h) (Or.inl ⟨by rfl, ?y83⟩) hHeld ?r83
                  case y83 => (intro W hSW; obtain ⟨q0, q1, q2, q3, q4, -⟩ := hSW; go_simp; try with_reducible rfl)
                  simp only [Act.put, List.setIfInBounds_toArray, List.set_cons_zero, List.set_cons_succ]
                  refine wpAnyH_take (i := 40) (oi := Oper.mk (some 67) _ _ _ _ _) (v := ?v84) rfl (by kernel_rfl) (by kernel_rfl) (by kernel_rfl) (fun _ _ _ h => h) (Or.inl ⟨by rfl, ?y84⟩) hHeld ?r84
                  case y84 => (intro W hSW; obtain ⟨q0, q1, q2, q3, q4, -⟩ := hSW; go_simp; try with_reducible rfl)
                  simp only [Act.put, List.setIfInBounds_toArray, List.set_cons_zero, List.set_cons_succ]
                  refine wpAnyH_done (by kernel_rfl) ?_ _
                  have B3 : Below w.heap.size w w4 := b0.trans (hHeld.2.2.2.2.2.2.2.1.mono b0.size)
                  go_wp2
                  go_ret
                  exact ⟨ret_bool HF.out.symm, B3⟩
    · have HR : Hid (storeB nx J = true) := right_of H0.out (fun j hj => (HOk.out j (by rw [HJ.out] at hj; omega)).1) (fun j hj => (HOk.out j (by rw [HJ.out] at hj; omega)).2)
      go_wp2
      go_ret
      exact ⟨ret_bool HR.out.symm, hB⟩
end Go.Proofs.YtakodlfmnedeiabDoor
/-
  Numbers as texts, plainly: what is written comes back, and nothing else is read.
-/
namespace Go.Proofs.YtakodlfmnedeiabDoor
open Go.Lib
set_option linter.unusedVariables false

theorem decFrom_snoc (c : UInt8) : ∀ (l : List UInt8) (acc : Nat), decFrom acc (l ++ [c]) = match decFrom acc l with
    | some m => (match digitVal c with | some d => some (m * 10 + d) | none => none)
    | none => none
  | [], acc => by
    simp only [List.nil_append, decFrom]
    cases digitVal c <;> rfl
  | b :: r, acc => by
    simp only [List.cons_append, decFrom]
    cases digitVal b with
    | none => rfl
    | some d => exact decFrom_snoc c r _

theorem digitVal_dec (d : Nat) (h : d < 10) : digitVal (UInt8.ofNat (48 + d)) = some d := by
  have e : (UInt8.ofNat (48 + d)).toNat = 48 + d := by simp; omega
  unfold digitVal
  rw [e, if_pos (by omega)]
  simp

theorem decFrom_dec (u : Nat) : decFrom 0 (decDigits u) = some u := by
  induction u using Nat.strongRecOn with
  | _ u ih =>
    by_cases h : u < 10
    · rw [decDigits_one h]
      simp only [decFrom, digitVal_dec u h]; simp
    · rw [decDigits, dif_neg h, decFrom_snoc, ih (u / 10) (by omega), digitVal_dec _ (by omega)]
      simp; omega

theorem decDigits_ne (u : Nat) : decDigits u ≠ [] := by
  intro h
  have := decDigits_length u
  rw [h] at this
  have := nDigits_pos u
  simp at *; omega

theorem dec_head (u : Nat) : ∃ d r, decDigits u = UInt8.ofNat (48 + d) :: r ∧ d < 10 ∧ (0 < u → 0 < d) ∧ (u < 10 → r = []) := by
  induction u using Nat.strongRecOn with
  | _ u ih =>
    by_cases h : u < 10
    · exact ⟨u, [], decDigits_one h, h, fun h => h, fun _ => rfl⟩
    · obtain ⟨d, r, e, hd, hp, _⟩ := ih (u / 10) (by omega)
      refine ⟨d, r ++ [UInt8.ofNat (48 + u % 10)], ?_, hd, fun _ => hp (by omega), fun h2 => absurd h2 h⟩
      rw [decDigits, dif_neg h, e]; rfl

theorem ofNat_inj48 {d : Nat} (h : d < 10) (k : Nat) (hk : k < 256) : UInt8.ofNat (48 + d) = UInt8.ofNat k ↔ 48 + d = k := by
  constructor
  · intro e
    have := congrArg UInt8.toNat e
    simp at this; omega
  · intro e; rw [e]

theorem nDigits_10 (u : Nat) (h : u ≤ 1000000000) : nDigits u ≤ 10 := by
  rcases Nat.lt_or_ge (nDigits u) 11 with h1 | h1
  · omega
  · exfalso
    -- ten digits at most
    have : ∀ u, u < 10 ^ 10 → nDigits u ≤ 10 := by
      intro u hu
      have step : ∀ (k u : Nat), u < 10 ^ (k + 1) → nDigits u ≤ k + 1 := by
        intro k
        induction k with
        | zero => intro u hu; rw [nDigits_small (by simpa using hu)]; omega
        | succ k ih =>
          intro u hu
          by_cases hs : u < 10
          · rw [nDigits_small hs]; omega
          · rw [nDigits_big hs]
            have := ih (u / 10) (by rw [Nat.pow_succ] at hu; exact Nat.div_lt_of_lt_mul (by omega))
            omega
      exact step 9 u hu
    have := this u (by omega)
    omega

/-- the number of a text of at most ten digits, with no needless nought; -1: it is none -/
def wholeL (l : List UInt8) : Int :=
  if l.length < 1 ∨ 10 < l.length ∨ (1 < l.length ∧ l.head? = some 48) then -1
  else match decFrom 0 l with
    | some n => (n : Int)
    | none => -1

theorem whole_dec (u : Nat) (h : u ≤ 1000000000) : wholeL (decDigits u) = (u : Int) := by
  have hl := decDigits_length u
  have h1 := nDigits_pos u
  have h2 := nDigits_10 u h
  unfold wholeL
  rw [if_neg, decFrom_dec]
  rintro (h3 | h3 | ⟨h3, h4⟩)
  · omega
  · omega
  · obtain ⟨d, r, e, hd, hp, hr⟩ := dec_head u
    rw [e] at h4 h3
    simp only [List.head?_cons, Option.some.injEq] at h4
    have := (ofNat_inj48 hd 48 (by omega)).1 h4
    by_cases h0 : 0 < u
    · have := hp h0; omega
    · have := hr (by omega); rw [this] at h3; simp at h3

theorem digitVal_some {c : UInt8} {d : Nat} (h : digitVal c = some d) : c = UInt8.ofNat (48 + d) ∧ d < 10 := by
  obtain ⟨h1, h2, h3⟩ := digitVal_eq h
  refine ⟨?_, by omega⟩
  apply UInt8.toNat_inj.1
  rw [h3]
  simp; omega

/-- digits without a needless nought are their number's -/
theorem dec_of : ∀ (n : Nat) (l : List UInt8) (u : Nat), l.length = n + 1 → (1 < l.length → l.head? ≠ some 48) → decFrom 0 l = some u → l = decDigits u ∧ (l.head? ≠ some 48 → 0 < u)
  | 0, l, u, hl, hh, hd => by
    match l, hl with
    | [c], _ =>
      simp only [decFrom] at hd
      cases hc : digitVal c with
      | none => rw [hc] at hd; cases hd
      | some d =>
        rw [hc] at hd
        simp at hd
        obtain ⟨e, h10⟩ := digitVal_some hc
        subst hd
        refine ⟨by rw [decDigits_one h10, e], fun h => ?_⟩
        rcases Nat.eq_zero_or_pos d with h0 | h0
        · exfalso; apply h; rw [e, h0]; rfl
        · exact h0
  | n + 1, l, u, hl, hh, hd => by
    have hne : l ≠ [] := by intro e; rw [e] at hl; simp at hl
    obtain ⟨l', c, rfl⟩ : ∃ l' c, l = l' ++ [c] := ⟨l.dropLast, l.getLast hne, (List.dropLast_concat_getLast hne).symm⟩
    have hl' : l'.length = n + 1 := by simp at hl; exact hl
    have hhd : (l' ++ [c]).head? = l'.head? := by
      cases l' with
      | nil => simp at hl'
      | cons a r => rfl
    have hh' : l'.head? ≠ some 48 := by rw [← hhd]; exact hh (by simp; omega)
    rw [decFrom_snoc] at hd
    cases h1 : decFrom 0 l' with
    | none => rw [h1] at hd; cases hd
    | some m =>
      rw [h1] at hd
      simp only at hd
      cases hc : digitVal c with
      | none => rw [hc] at hd; cases hd
      | some d =>
        rw [hc] at hd
        simp at hd
        obtain ⟨e, h10⟩ := digitVal_some hc
        obtain ⟨e2, hp⟩ := dec_of n l' m hl' (fun _ => hh') h1
        have hm := hp hh'
        subst hd
        refine ⟨?_, fun _ => by omega⟩
        rw [decDigits, dif_neg (by omega), show (m * 10 + d) / 10 = m by omega, show (m * 10 + d) % 10 = d by omega, ← e2, e]

theorem whole_of {l : List UInt8} {u : Int} (h : wholeL l = u) (h0 : 0 ≤ u) : l = decDigits u.toNat := by
  unfold wholeL at h
  split at h
  · omega
  · rename_i hc
    split at h
    · rename_i n hn
      subst h
      have := (dec_of (l.length - 1) l n (by omega) (fun h1 h2 => hc (.inr (.inr ⟨h1, h2⟩))) hn).1
      simpa using this
    · omega

def numOk (n : Int) : Bool := decide (-1000000000 ≤ n) && decide (n ≤ 1000000000)
theorem numOk_iff {n : Int} : numOk n = true ↔ -1000000000 ≤ n ∧ n ≤ 1000000000 := by simp [numOk]

/-- a text's number, as the model reads it -/
def numV (l : List UInt8) : Option Int :=
  if 1 < l.length ∧ l.head? = some 45 then
    if 0 ≤ - wholeL l.tail then none else if numOk (- wholeL l.tail) then some (- wholeL l.tail) else none
  else if wholeL l < 0 then none else if numOk (wholeL l) then some (wholeL l) else none

theorem itoa_neg {n : Int} (h : n < 0) : itoa n = 45 :: decDigits n.natAbs := by unfold itoa; rw [if_pos h]
theorem itoa_pos {n : Int} (h : ¬ n < 0) : itoa n = decDigits n.toNat := by unfold itoa; rw [if_neg h]

theorem numV_itoa {n : Int} (h : numOk n = true) : numV (itoa n) = some n := by
  rw [numOk_iff] at h
  by_cases hn : n < 0
  · rw [itoa_neg hn]
    have hp := List.length_pos_iff.2 (decDigits_ne n.natAbs)
    have hw := whole_dec n.natAbs (by omega)
    unfold numV
    rw [if_pos (by simp; omega)]
    have e : wholeL (45 :: decDigits n.natAbs).tail = (n.natAbs : Int) := hw
    rw [if_neg (by rw [e]; omega), e, if_pos (by rw [numOk_iff]; omega)]
    congr 1; omega
  · rw [itoa_pos hn]
    have hw := whole_dec n.toNat (by omega)
    unfold numV
    rw [if_neg, hw, if_neg (by omega), if_pos (by rw [numOk_iff]; omega)]
    · congr 1; omega
    · rintro ⟨_, h2⟩
      obtain ⟨d, r, e, hd, _, _⟩ := dec_head n.toNat
      rw [e] at h2
      simp only [List.head?_cons, Option.some.injEq] at h2
      have := (ofNat_inj48 hd 45 (by omega)).1 h2
      omega

theorem numV_some {l : List UInt8} {n : Int} (h : numV l = some n) : numOk n = true ∧ l = itoa n := by
  unfold numV at h
  split at h
  · rename_i hc
    split at h
    · cases h
    · rename_i h0
      split at h
      · rename_i hk
        simp only [Option.some.injEq] at h
        subst h
        refine ⟨hk, ?_⟩
        rw [itoa_neg (by omega)]
        have e := whole_of (l := l.tail) rfl (by omega)
        match l, hc with
        | b :: r, ⟨_, h2⟩ =>
          simp only [List.head?_cons, Option.some.injEq] at h2
          simp only [List.tail_cons] at e h0 ⊢
          rw [h2]
          congr 1
          rw [show (-wholeL r).natAbs = (wholeL r).toNat by omega]
          exact e
      · cases h
  · split at h
    · cases h
    · split at h
      · rename_i hk
        simp only [Option.some.injEq] at h
        subst h
        refine ⟨hk, ?_⟩
        rw [itoa_pos (by omega)]
        exact whole_of rfl (by omega)
      · cases h

theorem atoi_itoa {n : Int} (h : numOk n = true) : atoiAll (itoa n) = .ok n := by
  rw [numOk_iff] at h
  have hd := decFrom_dec n.natAbs
  have hl := decDigits_length n.natAbs
  have hl2 := nDigits_10 n.natAbs (by omega)
  have hne : (decDigits n.natAbs).isEmpty = false := by
    have := decDigits_ne n.natAbs
    cases hx : decDigits n.natAbs with
    | nil => exact absurd hx this
    | cons a r => rfl
  by_cases hn : n < 0
  · rw [itoa_neg hn, atoiAll_short _ (by simp; omega)]
    have : atoi (45 :: decDigits n.natAbs) = some n := by
      show (decNat (decDigits n.natAbs)).map (fun (m : Nat) => -(m : Int)) = _
      unfold decNat
      rw [hne]
      simp only [Bool.false_eq_true, if_false]
      rw [hd]
      simp; omega
    rw [this]; rfl
  · rw [itoa_pos hn, show n.toNat = n.natAbs by omega, atoiAll_short _ (by omega)]
    have : atoi (decDigits n.natAbs) = some n := by
      obtain ⟨d, r, e, hdd, _, _⟩ := dec_head n.natAbs
      rw [e] at hd ⊢
      have h1 : (UInt8.ofNat (48 + d) == 45) = false := by
        rw [beq_eq_false_iff_ne]; intro e2
        have := (ofNat_inj48 hdd 45 (by omega)).1 e2
        omega
      have h2 : (UInt8.ofNat (48 + d) == 43) = false := by
        rw [beq_eq_false_iff_ne]; intro e2
        have := (ofNat_inj48 hdd 43 (by omega)).1 e2
        omega
      unfold atoi
      simp only [h1, h2, Bool.false_eq_true, if_false]
      unfold decNat
      rw [show (UInt8.ofNat (48 + d) :: r).isEmpty = false from rfl]
      simp only [Bool.false_eq_true, if_false]
      rw [hd]
      simp; omega
    rw [this]; rfl

/-- a text whose first byte is neither a digit nor a sign has no number -/
theorem numV_head {c : UInt8} {r : List UInt8} (h1 : c.toNat = 39) : numV (c :: r) = none := by
  cases h : numV (c :: r) with
  | none => rfl
  | some n =>
    obtain ⟨hk, e⟩ := numV_some h
    exfalso
    by_cases hn : n < 0
    · rw [itoa_neg hn] at e
      simp only [List.cons.injEq] at e
      rw [e.1] at h1; exact absurd h1 (by decide)
    · rw [itoa_pos hn] at e
      obtain ⟨d, r', e', hd, _, _⟩ := dec_head n.toNat
      rw [e'] at e
      simp only [List.cons.injEq] at e
      rw [e.1] at h1
      simp at h1; omega
end Go.Proofs.YtakodlfmnedeiabDoor
