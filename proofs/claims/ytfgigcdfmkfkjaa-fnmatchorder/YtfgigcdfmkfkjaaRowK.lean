/-
  Rows of elements of k cells each, whatever the element: what a slice of them reads as (RdK), what a call's own row of them holds (OwnK).
-/
import Derived.Test.YtfgigcdfmkfkjaaRowOf
import Derived.OpenShut
import Derived.BigQuiet
import Derived.Deep.QuietTactic
namespace Go.Proofs.Ytfgigcdfmkfkjaa
open Go.RowKit
set_option linter.unusedVariables false

def eAt {α : Type} [Inhabited α] (L : List α) (i : Nat) : α := L.getD i default
theorem eAt_in {α : Type} [Inhabited α] {L : List α} {i : Nat} (h : i < L.length) : eAt L i = L[i] := by simp [eAt, List.getD, h]
/-- what the slice at 'a' reads as -/
def RdK {α : Type} [Inhabited α] (f : α → List Value) (k : Nat) (w : World) (a : Option Addr) (L : List α) : Prop :=
  ∀ i, i < L.length → ∃ b off, a = some ⟨b, off, none⟩ ∧ ∀ (j : Nat) c, (f (eAt L i))[j]? = some c → w.cell? ⟨b, off + i * k + j, none⟩ = some c

theorem RdK.open {α : Type} [Inhabited α] {f : α → List Value} {k : Nat} (hk : ∀ x, (f x).length = k) (h0 : 0 < k) {w : World} {a : Option Addr} {L : List α} (h : RdK f k w a L) (hp : 0 < L.length) :
    ∃ b off, a = some ⟨b, off, none⟩ ∧ b < w.heap.size ∧ ∀ i, i < L.length → ∀ (j : Nat) c, (f (eAt L i))[j]? = some c → w.cell? ⟨b, off + i * k + j, none⟩ = some c := by
  obtain ⟨b, off, rfl, hc⟩ := h 0 hp
  have hj : 0 < (f (eAt L 0)).length := by rw [hk]; exact h0
  refine ⟨b, off, rfl, World.block_lt_of_cell? w _ (hc 0 _ (List.getElem?_eq_getElem hj)), fun i hi => ?_⟩
  obtain ⟨b2, off2, e, h1⟩ := h i hi
  simp only [Option.some.injEq, Addr.mk.injEq] at e
  rw [e.1, e.2.1]; exact h1
theorem RdK.below {α : Type} [Inhabited α] {f : α → List Value} {k : Nat} {w w' : World} {a : Option Addr} {L : List α} (h : RdK f k w a L) (hb : Below w.heap.size w w') : RdK f k w' a L := by
  intro i hi
  obtain ⟨b, off, e, h0⟩ := h i hi
  refine ⟨b, off, e, fun j c hj => ?_⟩
  have h1 := h0 j c hj
  rw [hb.cell (World.block_lt_of_cell? w _ h1)]; exact h1
theorem RdK.heap {α : Type} [Inhabited α] {f : α → List Value} {k : Nat} {w w' : World} {a : Option Addr} {L : List α} (h : RdK f k w a L) (hb : w'.heap = w.heap) : RdK f k w' a L := by
  intro i hi
  obtain ⟨b, off, e, h0⟩ := h i hi
  exact ⟨b, off, e, fun j c hj => by rw [show ∀ p, w'.cell? p = w.cell? p from fun p => by simp [World.cell?, hb]]; exact h0 j c hj⟩
theorem RdK.nil {α : Type} [Inhabited α] (f : α → List Value) (k : Nat) (w : World) (a : Option Addr) : RdK f k w a [] := fun i hi => absurd hi (Nat.not_lt_zero _)
/-- a shorter part, from the head -/
theorem RdK.take {α : Type} [Inhabited α] {f : α → List Value} {k : Nat} {w : World} {a : Option Addr} {L M : List α} (h : RdK f k w a (L ++ M)) : RdK f k w a L := by
  intro i hi
  obtain ⟨b, off, e, h0⟩ := h i (by rw [List.length_append]; omega)
  have ev : eAt (L ++ M) i = eAt L i := by rw [eAt_in (by rw [List.length_append]; omega), eAt_in hi, List.getElem_append_left hi]
  rw [ev] at h0
  exact ⟨b, off, e, h0⟩
theorem ownsRow_below' {w w' : World} {base n size : Nat} {e : TypeId} {v : Value} {xs : List Value} (h : w.ownsRow base e size v n xs) (hb : Below w.heap.size w w') : w'.ownsRow base e size v n xs := by
  refine ⟨h.1, ?_⟩
  rcases h.2 with h2 | ⟨g, cap, cur, h1, hb', hh, rest⟩
  · exact .inl h2
  · exact .inr ⟨g, cap, cur, h1, hb', by rw [hb.block g (Array.getElem?_eq_some_iff.1 hh).1]; exact hh, rest⟩
/-- what a call's own row reads as -/
theorem rdK_owns {α : Type} [Inhabited α] {f : α → List Value} {k : Nat} (hk : ∀ x, (f x).length = k) (hp : 0 < k) {w : World} {base n : Nat} {T : TypeId} {v : Value} {L : List α} (h : w.ownsRow base T k v n (rowOf f L)) :
    ∃ a cap, v = .slice a L.length cap ∧ RdK f k w a L ∧ n = L.length ∧ L.length ≤ cap ∧ (a = none → L.length = 0 ∧ cap = 0) := by
  have hn : n = L.length := by have := h.1; rw [rowOf_length hk] at this; exact (Nat.eq_of_mul_eq_mul_right hp this).symm
  subst hn
  rcases h.2 with ⟨rfl, h0⟩ | ⟨g, cap, cur, rfl, hb, hg, hnc, hcm, hsz, htake⟩
  · exact ⟨none, 0, by rw [h0], fun i hi => by omega, rfl, by omega, fun _ => ⟨h0, rfl⟩⟩
  · refine ⟨_, cap, rfl, fun i hi => ⟨g, 0, rfl, fun j c hj => ?_⟩, rfl, hnc, fun hh => by cases hh⟩
    have hjk : j < k := by rw [← hk (eAt L i)]; exact (List.getElem?_eq_some_iff.1 hj).1
    have hlt : i * k + j < L.length * k := by
      have : (i + 1) * k ≤ L.length * k := Nat.mul_le_mul_right _ hi
      rw [Nat.succ_mul] at this
      omega
    rw [Nat.zero_add, h.cellAt (i * k + j) hlt, rowOf_get hk L i j hi hjk, ← eAt_in hi]
    exact hj
/-- block g holds the elements L, at its head, and is written by nobody else -/
def OwnK {α : Type} [Inhabited α] (T : TypeId) (f : α → List Value) (k : Nat) (w : World) (g cap : Nat) (L : List α) : Prop := w.ownsRow 0 T k (.slice (some ⟨g, 0, none⟩) L.length cap) L.length (rowOf f L)
theorem OwnK.of {α : Type} [Inhabited α] {T : TypeId} {f : α → List Value} {k : Nat} (hk : ∀ x, (f x).length = k) (hp : 0 < k) {w : World} {base g cap n : Nat} {L : List α} (h : w.ownsRow base T k (.slice (some ⟨g, 0, none⟩) n cap) n (rowOf f L)) : OwnK T f k w g cap L := by
  have hn : n = L.length := by have := h.1; rw [rowOf_length hk] at this; exact (Nat.eq_of_mul_eq_mul_right hp this).symm
  subst hn
  refine ⟨h.1, ?_⟩
  rcases h.2 with h2 | ⟨g, cap, cur, h1, hb, rest⟩
  · exact .inl h2
  · exact .inr ⟨g, cap, cur, h1, Nat.zero_le _, rest⟩
theorem OwnK.lt {α : Type} [Inhabited α] {T : TypeId} {f : α → List Value} {k : Nat} {w : World} {g cap : Nat} {L : List α} (h : OwnK T f k w g cap L) : g < w.heap.size := (World.ownsRow.lt h g rfl).2
theorem OwnK.later {α : Type} [Inhabited α] {T : TypeId} {f : α → List Value} {k : Nat} {w w' : World} {g cap : Nat} {L : List α} (h : OwnK T f k w g cap L) (hb : Below w.heap.size w w') : OwnK T f k w' g cap L := ownsRow_below' h hb
theorem OwnK.grown {α : Type} [Inhabited α] {T : TypeId} {f : α → List Value} {k : Nat} {w w' : World} {g g' cap : Nat} {L : List α} (h : OwnK T f k w g cap L) (hg : w.grownBy w' (some g')) (hne : g ≠ g') : OwnK T f k w' g cap L :=
  World.ownsRow.kept h hg (.inr (by simp [Value.ownBlock]; exact hne))
theorem OwnK.rd {α : Type} [Inhabited α] {T : TypeId} {f : α → List Value} {k : Nat} (hk : ∀ x, (f x).length = k) (hp : 0 < k) {w : World} {g cap : Nat} {L : List α} (h : OwnK T f k w g cap L) : RdK f k w (some ⟨g, 0, none⟩) L := by
  obtain ⟨a, c, e, hr, -⟩ := rdK_owns hk hp h
  simp only [Value.slice.injEq] at e
  rw [e.1]; exact hr
theorem OwnK.cap {α : Type} [Inhabited α] {T : TypeId} {f : α → List Value} {k : Nat} {w : World} {g cap : Nat} {L : List α} (h : OwnK T f k w g cap L) : L.length ≤ cap := by
  rcases h.2 with ⟨h1, _⟩ | ⟨g', cap', cur, h1, hb', hh, hnc, _⟩
  · simp at h1
  · simp only [Value.slice.injEq] at h1; omega

/-- the first i elements laid, the rest still z -/
def partK {α : Type} (L : List α) (z : α) (i : Nat) : List α := L.take i ++ List.replicate (L.length - i) z
theorem partK_length {α : Type} {L : List α} {z : α} {i : Nat} (h : i ≤ L.length) : (partK L z i).length = L.length := by simp [partK]; omega
theorem partK_zero {α : Type} (L : List α) (z : α) : partK L z 0 = List.replicate L.length z := by simp [partK]
theorem partK_end {α : Type} (L : List α) (z : α) : partK L z L.length = L := by simp [partK]
theorem partK_set {α : Type} [Inhabited α] {L : List α} {z : α} {i : Nat} (h : i < L.length) : (partK L z i).set i (eAt L i) = partK L z (i + 1) := by
  have h1 : partK L z i = L.take i ++ z :: List.replicate (L.length - (i + 1)) z := by
    unfold partK; rw [show L.length - i = (L.length - (i + 1)) + 1 by omega, List.replicate_succ]
  have h2 : partK L z (i + 1) = L.take i ++ eAt L i :: List.replicate (L.length - (i + 1)) z := by
    unfold partK; rw [List.take_succ_eq_append_getElem h, eAt_in h, List.append_assoc]; rfl
  rw [h1, h2, List.set_append_right _ _ (by rw [List.length_take]; omega), List.length_take, Nat.min_eq_left (by omega), Nat.sub_self]; rfl
/-- the first i elements as m has them, the rest as they were -/
def partL {α : Type} (m : Nat → α) (L : List α) (i : Nat) : List α := (List.range i).map m ++ L.drop i
theorem partL_length {α : Type} {m : Nat → α} {L : List α} {i : Nat} (h : i ≤ L.length) : (partL m L i).length = L.length := by simp [partL]; omega
theorem partL_end {α : Type} {m : Nat → α} {L : List α} {i : Nat} (h : L.length ≤ i) : partL m L i = (List.range i).map m := by unfold partL; rw [List.drop_eq_nil_of_le h, List.append_nil]
theorem partL_set {α : Type} {m : Nat → α} {L : List α} {i : Nat} (h : i < L.length) : (partL m L i).set i (m i) = partL m L (i + 1) := by
  unfold partL
  rw [List.set_append_right _ _ (by simp), List.length_map, List.length_range, Nat.sub_self, List.drop_eq_getElem_cons h, List.set_cons_zero, List.range_succ, List.map_append, List.append_assoc]
  rfl
theorem rowOf_made {α : Type} {f : α → List Value} {x : α} {cs : Array Value} (hx : f x = cs.toList) (hp : 0 < cs.size) (n : Nat) : (madeCells cs (n * cs.size)).toList = rowOf f (List.replicate n x) := by
  have hk : ∀ y ∈ List.replicate n x, f y = cs.toList := fun y hy => by rw [(List.mem_replicate.1 hy).2]; exact hx
  induction n with
  | zero => simp [madeCells, rowOf]
  | succ n ih =>
    apply List.ext_getElem?
    intro j
    rw [List.replicate_succ, rowOf_cons, hx]
    by_cases hj : j < cs.size
    · rw [List.getElem?_append_left (by simpa using hj)]
      have h1 : j < (n + 1) * cs.size := by rw [Nat.succ_mul]; omega
      simp [madeCells, h1, Nat.mod_eq_of_lt hj, hj]
    · rw [List.getElem?_append_right (by simp; omega), ← ih (fun y hy => hk y (by rw [List.replicate_succ]; exact List.mem_cons_of_mem _ hy))]
      have hl : cs.toList.length = cs.size := by simp
      rw [hl]
      by_cases h1 : j < (n + 1) * cs.size
      · have h2 : j - cs.size < n * cs.size := by rw [Nat.succ_mul] at h1; omega
        have h3 : (j - cs.size) % cs.size = j % cs.size := by
          rw [← Nat.mod_eq_sub_mod (by omega)]
        simp [madeCells, h1, h2, h3]
      · have h2 : ¬ j - cs.size < n * cs.size := by rw [Nat.succ_mul] at h1; omega
        simp [madeCells, h1, h2]
theorem grown_belowM {w w1 w2 : World} {g : Nat} (h : w.grownBy w1 (some g)) (hb : Below w1.heap.size w1 w2) : w.grownBy w2 (some g) :=
  ⟨hb.os.trans h.os, hb.tape.trans h.tape, hb.output.trans h.output, Nat.le_trans h.size hb.size, fun i hi hne => (hb.block i (Nat.lt_of_lt_of_le hi h.size)).trans (h.block i hi hne)⟩
end Go.Proofs.Ytfgigcdfmkfkjaa
