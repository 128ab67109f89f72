/-
  What fixed and fieldsBeyond answer: a kind and five values, those that lack being zero; and the values beyond five.
-/
import Derived.Test.YtaflokfgbmlmaadDoorJCopy3
import Derived.Test.YtaflokfgbmlmaadDoorJLawFact
import Derived.Test.YtaflokfgbmlmaadDoorJKeep6
namespace Go.Proofs.YtaflokfgbmlmaadDoor
open Go.RowKit
set_option linter.unusedVariables false

def zeroV : V3 := ⟨0, 0, ⟨#[]⟩⟩
/-- the first five, those that lack being zero -/
def pad5 (L : List V3) : List V3 := L.take 5 ++ List.replicate (5 - L.length) zeroV
theorem pad5_length (L : List V3) : (pad5 L).length = 5 := by unfold pad5; simp; omega
theorem list5 {L : List V3} (h : L.length = 5) : ∃ a b c d e, L = [a, b, c, d, e] := by
  match L, h with
  | [a, b, c, d, e], _ => exact ⟨a, b, c, d, e, rfl⟩
/-- the cells of a kind and five values -/
def cells16 (kd : ByteArray) (v0 v1 v2 v3 v4 : V3) : Array Value :=
  #[.string kd, .int .i64 v0.K, .int .i64 v0.N, .string v0.S, .int .i64 v1.K, .int .i64 v1.N, .string v1.S, .int .i64 v2.K, .int .i64 v2.N, .string v2.S, .int .i64 v3.K, .int .i64 v3.N, .string v3.S, .int .i64 v4.K, .int .i64 v4.N, .string v4.S]
def zero16 (kd : ByteArray) : List Value := .string kd :: cells3 (List.replicate 5 zeroV)
theorem splice16 (kd : ByteArray) (L : List V3) : splice (zero16 kd) 1 (cells3 (L.take 5)) = .string kd :: cells3 (pad5 L) := by
  have hl := cells3_length (L.take 5)
  unfold splice zero16 pad5
  rw [cells3_append, hl, Nat.add_comm 1, List.take_succ_cons, List.take_zero, List.drop_succ_cons]
  show .string kd :: (cells3 (L.take 5) ++ _) = _
  congr 2
  have e : ∀ n k : Nat, (cells3 (List.replicate n zeroV)).drop (k * 3) = cells3 (List.replicate (n - k) zeroV) := by
    intro n k
    induction k generalizing n with
    | zero => simp
    | succ k ih =>
      cases n with
      | zero => simp [cells3]
      | succ n =>
        have h3 : cells3 (List.replicate (n + 1) zeroV) = .int .i64 0 :: .int .i64 0 :: .string ⟨#[]⟩ :: cells3 (List.replicate n zeroV) := by simp [List.replicate_succ, cells3, zeroV]
        rw [h3, show (k + 1) * 3 = k * 3 + 1 + 1 + 1 by omega, List.drop_succ_cons, List.drop_succ_cons, List.drop_succ_cons, ih]
        congr 2; omega
  rw [e, List.length_take]
  congr 2; omega
theorem one3 {L : List V3} : ∀ v ∈ cells3 L, v.oneCell' = true := by
  intro v hv
  obtain ⟨u, _, hu⟩ := List.mem_flatMap.1 hv
  simp only [List.mem_cons, List.not_mem_nil, or_false] at hu
  rcases hu with rfl | rfl | rfl <;> rfl
theorem src3 {w : World} {p : Addr} {L : List V3} (hr : RdV w (some p) L) (m : Nat) : ∀ j v, (cells3 (L.take m))[j]? = some v → w.cell? (p.add j) = some v := by
  intro j v hj
  have hlt : j < (cells3 (L.take m)).length := (List.getElem?_eq_some_iff.1 hj).1
  rw [cells3_length] at hlt
  obtain ⟨i, r, rfl, hr3⟩ : ∃ i r, j = i * 3 + r ∧ r < 3 := ⟨j / 3, j % 3, by omega, by omega⟩
  have hi : i < (L.take m).length := by omega
  have hi2 : i < L.length := by simp at hi; omega
  obtain ⟨g0, g1, g2⟩ := cells3_get (L.take m) i hi
  have ev : vAt (L.take m) i = vAt L i := by rw [vAt_in hi, vAt_in hi2]; simp
  rw [ev] at g0 g1 g2
  obtain ⟨b, off, e, h0, h1, h2⟩ := hr i hi2
  simp only [Option.some.injEq] at e
  subst e
  rw [Addr.add_lit]
  match r, hr3 with
  | 0, _ => rw [Nat.add_zero, g0] at hj; rw [Nat.add_zero, h0]; exact hj
  | 1, _ => rw [g1] at hj; rw [← Nat.add_assoc, h1]; exact hj
  | 2, _ => rw [g2] at hj; rw [← Nat.add_assoc, h2]; exact hj

def setAll (w : World) (q : Nat) : Nat → List Value → World
  | _, [] => w
  | i, v :: r => setAll (w.setCell ⟨q, i, none⟩ v) q (i + 1) r
theorem setAll_heap (q : Nat) (T : TypeId) : ∀ (vs pre : List Value) (w : World) (rest : List Value), w.heap[q]? = some (.cells (pre ++ rest).toArray T (0, 0)) → rest.length = vs.length →
    (setAll w q pre.length vs).heap[q]? = some (.cells (pre ++ vs).toArray T (0, 0)) ∧ w.grownBy (setAll w q pre.length vs) (some q)
  | [], pre, w, rest, h, hl => by
    obtain rfl : rest = [] := List.eq_nil_of_length_eq_zero (by simpa using hl)
    exact ⟨h, ⟨rfl, rfl, rfl, Nat.le_refl _, fun _ _ _ => rfl⟩⟩
  | v :: vs, pre, w, [], h, hl => by simp at hl
  | v :: vs, pre, w, x :: rest, h, hl => by
    have h1 : (w.setCell ⟨q, pre.length, none⟩ v).heap[q]? = some (.cells ((pre ++ [v]) ++ rest).toArray T (0, 0)) := by
      rw [heap_setCell_same w q pre.length _ T v h]
      simp
    have ih := setAll_heap q T vs (pre ++ [v]) (w.setCell ⟨q, pre.length, none⟩ v) rest h1 (by simpa using hl)
    rw [List.length_append, List.length_cons, List.length_nil, List.append_assoc] at ih
    refine ⟨ih.1, ?_⟩
    obtain ⟨g1, g2, g3, g4, g5⟩ := ih.2
    exact ⟨g1, g2, g3, Nat.le_trans (by simp [World.setCell]) g4, fun k hk hne => (g5 k (by simpa [World.setCell] using hk) hne).trans (heap_setCell_other w ⟨q, pre.length, none⟩ k v (fun e => hne (by rw [e])))⟩

theorem cells16_get {w : World} {q : Nat} {T : TypeId} {kd : ByteArray} {v0 v1 v2 v3 v4 : V3} (h : w.heap[q]? = some (.cells (cells16 kd v0 v1 v2 v3 v4) T (0, 0))) :
    w.cell? ⟨q, 0, none⟩ = some (.string kd) ∧ w.cell? ⟨q, 1, none⟩ = some (.int .i64 v0.K) ∧ w.cell? ⟨q, 2, none⟩ = some (.int .i64 v0.N) ∧ w.cell? ⟨q, 3, none⟩ = some (.string v0.S) ∧ w.cell? ⟨q, 4, none⟩ = some (.int .i64 v1.K) ∧ w.cell? ⟨q, 5, none⟩ = some (.int .i64 v1.N) ∧ w.cell? ⟨q, 6, none⟩ = some (.string v1.S) ∧ w.cell? ⟨q, 7, none⟩ = some (.int .i64 v2.K) ∧ w.cell? ⟨q, 8, none⟩ = some (.int .i64 v2.N) ∧ w.cell? ⟨q, 9, none⟩ = some (.string v2.S) ∧ w.cell? ⟨q, 10, none⟩ = some (.int .i64 v3.K) ∧ w.cell? ⟨q, 11, none⟩ = some (.int .i64 v3.N) ∧ w.cell? ⟨q, 12, none⟩ = some (.string v3.S) ∧ w.cell? ⟨q, 13, none⟩ = some (.int .i64 v4.K) ∧ w.cell? ⟨q, 14, none⟩ = some (.int .i64 v4.N) ∧ w.cell? ⟨q, 15, none⟩ = some (.string v4.S) := by
  refine ⟨?_, ?_, ?_, ?_, ?_, ?_, ?_, ?_, ?_, ?_, ?_, ?_, ?_, ?_, ?_, ?_⟩
  · rw [cell_of_row w q 0 _ T (0, 0) h]; rfl
  · rw [cell_of_row w q 1 _ T (0, 0) h]; rfl
  · rw [cell_of_row w q 2 _ T (0, 0) h]; rfl
  · rw [cell_of_row w q 3 _ T (0, 0) h]; rfl
  · rw [cell_of_row w q 4 _ T (0, 0) h]; rfl
  · rw [cell_of_row w q 5 _ T (0, 0) h]; rfl
  · rw [cell_of_row w q 6 _ T (0, 0) h]; rfl
  · rw [cell_of_row w q 7 _ T (0, 0) h]; rfl
  · rw [cell_of_row w q 8 _ T (0, 0) h]; rfl
  · rw [cell_of_row w q 9 _ T (0, 0) h]; rfl
  · rw [cell_of_row w q 10 _ T (0, 0) h]; rfl
  · rw [cell_of_row w q 11 _ T (0, 0) h]; rfl
  · rw [cell_of_row w q 12 _ T (0, 0) h]; rfl
  · rw [cell_of_row w q 13 _ T (0, 0) h]; rfl
  · rw [cell_of_row w q 14 _ T (0, 0) h]; rfl
  · rw [cell_of_row w q 15 _ T (0, 0) h]; rfl
theorem cells16_free {w : World} {q : Nat} {T : TypeId} {kd : ByteArray} {v0 v1 v2 v3 v4 : V3} (h : w.heap[q]? = some (.cells (cells16 kd v0 v1 v2 v3 v4) T (0, 0))) :
    w.frozen? ⟨q, 0, none⟩ = false ∧ w.frozen? ⟨q, 1, none⟩ = false ∧ w.frozen? ⟨q, 2, none⟩ = false ∧ w.frozen? ⟨q, 3, none⟩ = false ∧ w.frozen? ⟨q, 4, none⟩ = false ∧ w.frozen? ⟨q, 5, none⟩ = false ∧ w.frozen? ⟨q, 6, none⟩ = false ∧ w.frozen? ⟨q, 7, none⟩ = false ∧ w.frozen? ⟨q, 8, none⟩ = false ∧ w.frozen? ⟨q, 9, none⟩ = false ∧ w.frozen? ⟨q, 10, none⟩ = false ∧ w.frozen? ⟨q, 11, none⟩ = false ∧ w.frozen? ⟨q, 12, none⟩ = false ∧ w.frozen? ⟨q, 13, none⟩ = false ∧ w.frozen? ⟨q, 14, none⟩ = false ∧ w.frozen? ⟨q, 15, none⟩ = false :=
  ⟨frozen_of_row w q 0 _ T h, frozen_of_row w q 1 _ T h, frozen_of_row w q 2 _ T h, frozen_of_row w q 3 _ T h, frozen_of_row w q 4 _ T h, frozen_of_row w q 5 _ T h, frozen_of_row w q 6 _ T h, frozen_of_row w q 7 _ T h, frozen_of_row w q 8 _ T h, frozen_of_row w q 9 _ T h, frozen_of_row w q 10 _ T h, frozen_of_row w q 11 _ T h, frozen_of_row w q 12 _ T h, frozen_of_row w q 13 _ T h, frozen_of_row w q 14 _ T h, frozen_of_row w q 15 _ T h⟩
theorem cells16_list (kd : ByteArray) (v0 v1 v2 v3 v4 : V3) : (Value.string kd :: cells3 [v0, v1, v2, v3, v4]).toArray = cells16 kd v0 v1 v2 v3 v4 := by simp [cells3, cells16]

theorem Tryd.infoV : (Tryd.prog.info? 85).map (·.size) = some 3 := by kernel_rfl

set_option maxRecDepth 100000 in
set_option maxHeartbeats 3200000 in
theorem fixed_any (kd : ByteArray) (a : Option Addr) (cap : Nat) (L : List V3) (v0 v1 v2 v3 v4 : V3) (w : World) (hr : RdV w a L) (hn : L.length ≤ 1048580) (hp : pad5 L = [v0, v1, v2, v3, v4]) :
    Calls Tryd.prog 52 #[.agg #[.string kd, .slice a L.length cap]] w fun e w' =>
      e = .returned (.agg (cells16 kd v0 v1 v2 v3 v4)) ∧ Below w.heap.size w w' := by
  have b0 := below_al w (.cells #[.string kd, .slice a L.length cap] 41)
  have b1 := b0.alloc b0.size (.cells #[.string ⟨#[]⟩, .int .i64 0, .int .i64 0, .string ⟨#[]⟩, .int .i64 0, .int .i64 0, .string ⟨#[]⟩, .int .i64 0, .int .i64 0, .string ⟨#[]⟩, .int .i64 0, .int .i64 0, .string ⟨#[]⟩, .int .i64 0, .int .i64 0, .string ⟨#[]⟩] 88)
  have b2 := b1.alloc b1.size (.cells #[.string kd, .int .i64 0, .int .i64 0, .string ⟨#[]⟩, .int .i64 0, .int .i64 0, .string ⟨#[]⟩, .int .i64 0, .int .i64 0, .string ⟨#[]⟩, .int .i64 0, .int .i64 0, .string ⟨#[]⟩, .int .i64 0, .int .i64 0, .string ⟨#[]⟩] 88)
  have hX := box_old (box_old (box2_new w (.string kd) (.slice a L.length cap) 41) (by simp) (.cells #[.string ⟨#[]⟩, .int .i64 0, .int .i64 0, .string ⟨#[]⟩, .int .i64 0, .int .i64 0, .string ⟨#[]⟩, .int .i64 0, .int .i64 0, .string ⟨#[]⟩, .int .i64 0, .int .i64 0, .string ⟨#[]⟩, .int .i64 0, .int .i64 0, .string ⟨#[]⟩] 88)) (by simp; omega) (.cells #[.string kd, .int .i64 0, .int .i64 0, .string ⟨#[]⟩, .int .i64 0, .int .i64 0, .string ⟨#[]⟩, .int .i64 0, .int .i64 0, .string ⟨#[]⟩, .int .i64 0, .int .i64 0, .string ⟨#[]⟩, .int .i64 0, .int .i64 0, .string ⟨#[]⟩] 88)
  have hR := box_old (heap_alloc_new (w.alloc (.cells #[.string kd, .slice a L.length cap] 41)) (.cells #[.string ⟨#[]⟩, .int .i64 0, .int .i64 0, .string ⟨#[]⟩, .int .i64 0, .int .i64 0, .string ⟨#[]⟩, .int .i64 0, .int .i64 0, .string ⟨#[]⟩, .int .i64 0, .int .i64 0, .string ⟨#[]⟩, .int .i64 0, .int .i64 0, .string ⟨#[]⟩] 88)) (by simp) (.cells #[.string kd, .int .i64 0, .int .i64 0, .string ⟨#[]⟩, .int .i64 0, .int .i64 0, .string ⟨#[]⟩, .int .i64 0, .int .i64 0, .string ⟨#[]⟩, .int .i64 0, .int .i64 0, .string ⟨#[]⟩, .int .i64 0, .int .i64 0, .string ⟨#[]⟩] 88)
  have hG := heap_alloc_new ((w.alloc (.cells #[.string kd, .slice a L.length cap] 41)).alloc (.cells #[.string ⟨#[]⟩, .int .i64 0, .int .i64 0, .string ⟨#[]⟩, .int .i64 0, .int .i64 0, .string ⟨#[]⟩, .int .i64 0, .int .i64 0, .string ⟨#[]⟩, .int .i64 0, .int .i64 0, .string ⟨#[]⟩, .int .i64 0, .int .i64 0, .string ⟨#[]⟩] 88)) (.cells #[.string kd, .int .i64 0, .int .i64 0, .string ⟨#[]⟩, .int .i64 0, .int .i64 0, .string ⟨#[]⟩, .int .i64 0, .int .i64 0, .string ⟨#[]⟩, .int .i64 0, .int .i64 0, .string ⟨#[]⟩, .int .i64 0, .int .i64 0, .string ⟨#[]⟩] 88)
  have hr2 := hr.below b2
  simp only [World.size_alloc] at hR hG
  clear b0 b1 hr
  go_enter Tryd.func52, Tryd.ntmps52
  go_wp2_with fail
  generalize ((w.alloc (.cells #[.string kd, .slice a L.length cap] 41)).alloc (.cells #[.string ⟨#[]⟩, .int .i64 0, .int .i64 0, .string ⟨#[]⟩, .int .i64 0, .int .i64 0, .string ⟨#[]⟩, .int .i64 0, .int .i64 0, .string ⟨#[]⟩, .int .i64 0, .int .i64 0, .string ⟨#[]⟩, .int .i64 0, .int .i64 0, .string ⟨#[]⟩] 88)).alloc (.cells #[.string kd, .int .i64 0, .int .i64 0, .string ⟨#[]⟩, .int .i64 0, .int .i64 0, .string ⟨#[]⟩, .int .i64 0, .int .i64 0, .string ⟨#[]⟩, .int .i64 0, .int .i64 0, .string ⟨#[]⟩, .int .i64 0, .int .i64 0, .string ⟨#[]⟩] 88) = w3 at hX hR hG hr2 b2 ⊢
  have HX := hide hX
  have HR := hide (show w3.heap[w.heap.size + 1]? = some (.cells (cells16 ⟨#[]⟩ zeroV zeroV zeroV zeroV zeroV) 88 (0, 0)) from hR)
  have HG := hide (show w3.heap[w.heap.size + 1 + 1]? = some (.cells (zero16 kd).toArray 88 (0, 0)) from hG)
  have hz : w.heap.size + 1 + 1 < w3.heap.size := (Array.getElem?_eq_some_iff.1 hG).1
  clear hX hR hG
  obtain ⟨x0, x1, -, -⟩ := box2_cell HX.out
  obtain ⟨g0, g1, -⟩ := cells16_get (show w3.heap[w.heap.size + 1 + 1]? = some (.cells (cells16 kd zeroV zeroV zeroV zeroV zeroV) 88 (0, 0)) from HG.out)
  have h1 : (cells3 (L.take 5)).length = Nat.min L.length 5 * 3 := by rw [cells3_length, List.length_take, Nat.min_comm]
  have h2 : 0 < (cells3 (L.take 5)).length → ∃ ad, a = some ad ∧ ∀ j v, (cells3 (L.take 5))[j]? = some v → w3.drew.cell? (ad.add j) = some v := by
    intro hpos
    rw [cells3_length, List.length_take] at hpos
    obtain ⟨b, off, e, _⟩ := hr2.open (by omega)
    refine ⟨⟨b, off, none⟩, e, fun j v hj => ?_⟩
    rw [e] at hr2
    exact src3 hr2 5 j v hj
  have h3 : 1 + (cells3 (L.take 5)).length ≤ (zero16 kd).length := by
    rw [cells3_length, List.length_take]
    show _ ≤ (Value.string kd :: cells3 (List.replicate 5 zeroV)).length
    rw [List.length_cons, cells3_length, List.length_replicate]; omega
  have H1 := hide h1
  have H2 := hide h2
  have H3 := hide h3
  clear h1 h2 h3
  go_region_law (refine step_copy3 rfl (.tmp 8) (.tmp 10) 39 39 rfl 85 Tryd.underlying39 Tryd.infoV a 5 5 L.length cap (w.heap.size + 1 + 1) 1 (by simp [Act.eval]) (by simp [Act.eval]) (zero16 kd) 88 HG.out (cells3 (L.take 5)) H1.out H2.out H3.out one3 ?_; intro w4 HG4 HW4)
  all_goals
    have HG5 : Hid (w4.heap[w.heap.size + 1 + 1]? = some (.cells (cells16 kd v0 v1 v2 v3 v4) 88 (0, 0))) := by
      have := HG4.out
      rw [splice16, hp, cells16_list] at this
      exact this
    have HR4 := hide (box_gr (w := w3.drew) HR.out HW4.out (by omega))
    have hB4 : Below w.heap.size w w4 := b2.drew.grown HW4.out b2.size (fun k hk => by cases hk; omega)
    clear HG4 HW4 HX HR HG H1 H2 H3 x0 x1 g0 g1 b2 hr2
    obtain ⟨g0, g1, g2, g3, g4, g5, g6, g7, g8, g9, g10, g11, g12, g13, g14, g15⟩ := cells16_get HG5.out
    obtain ⟨r0, r1, r2, r3, r4, r5, r6, r7, r8, r9, r10, r11, r12, r13, r14, r15⟩ := cells16_get HR4.out
    obtain ⟨f0, f1, f2, f3, f4, f5, f6, f7, f8, f9, f10, f11, f12, f13, f14, f15⟩ := cells16_free HR4.out
    go_wp2
    have h9 := setAll_heap (w.heap.size + 1) 88 [.string kd, .int .i64 v0.K, .int .i64 v0.N, .string v0.S, .int .i64 v1.K, .int .i64 v1.N, .string v1.S, .int .i64 v2.K, .int .i64 v2.N, .string v2.S, .int .i64 v3.K, .int .i64 v3.N, .string v3.S, .int .i64 v4.K, .int .i64 v4.N, .string v4.S] [] w4 (cells16 ⟨#[]⟩ zeroV zeroV zeroV zeroV zeroV).toList HR4.out rfl
    refine (show bodyPost _ _ _ _ _ (setAll w4 (w.heap.size + 1) 0 [.string kd, .int .i64 v0.K, .int .i64 v0.N, .string v0.S, .int .i64 v1.K, .int .i64 v1.N, .string v1.S, .int .i64 v2.K, .int .i64 v2.N, .string v2.S, .int .i64 v3.K, .int .i64 v3.N, .string v3.S, .int .i64 v4.K, .int .i64 v4.N, .string v4.S]) from ?_)
    generalize setAll w4 (w.heap.size + 1) 0 [.string kd, .int .i64 v0.K, .int .i64 v0.N, .string v0.S, .int .i64 v1.K, .int .i64 v1.N, .string v1.S, .int .i64 v2.K, .int .i64 v2.N, .string v2.S, .int .i64 v3.K, .int .i64 v3.N, .string v3.S, .int .i64 v4.K, .int .i64 v4.N, .string v4.S] = w5 at h9 ⊢
    obtain ⟨h9, gr⟩ := h9
    clear g0 g1 g2 g3 g4 g5 g6 g7 g8 g9 g10 g11 g12 g13 g14 g15 r0 r1 r2 r3 r4 r5 r6 r7 r8 r9 r10 r11 r12 r13 r14 r15 f0 f1 f2 f3 f4 f5 f6 f7 f8 f9 f10 f11 f12 f13 f14 f15
    obtain ⟨c0, c1, c2, c3, c4, c5, c6, c7, c8, c9, c10, c11, c12, c13, c14, c15⟩ := cells16_get (show w5.heap[w.heap.size + 1]? = some (.cells (cells16 kd v0 v1 v2 v3 v4) 88 (0, 0)) from h9)
    exact bodyPost_ret (v := .agg (cells16 kd v0 v1 v2 v3 v4)) (by simp [results, Tryd.results52, go_sem, c0, c1, c2, c3, c4, c5, c6, c7, c8, c9, c10, c11, c12, c13, c14, c15, cells16]) rfl ⟨rfl, below_set hB4 gr (by omega)⟩
end Go.Proofs.YtaflokfgbmlmaadDoor
