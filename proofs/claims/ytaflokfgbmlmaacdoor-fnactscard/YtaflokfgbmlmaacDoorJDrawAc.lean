/-
  An act being drawn, its list of terms in a row of its own.
-/
import Derived.Test.YtaflokfgbmlmaacDoorJoined2
import Derived.Deep.RegionLaw
import Derived.Test.YtaflokfgbmlmaacDoorJLawAct
namespace Go.Proofs.YtaflokfgbmlmaacDoor
open Go.RowKit
set_option linter.unusedVariables false

structure DrwT (w0 : World) (B q b F : Nat) (K : Int) (nm : ByteArray) (v : Value) (L : List X11) (N : Int) (un : ByteArray) (W : World) : Prop where
  cur : Cur B W q
  box : W.heap[F]? = some (.cells #[.int .i64 K, .string nm, v, .int .i64 N, .string un] 29 (0, 0))
  row : W.ownsRow b 41 11 v L.length (rowOf X11.cs L)
  rne : v.ownBlock ≠ some F
  gr : w0.grownBy W (some q)
  far : q < w0.heap.size ∧ w0.heap.size < b ∧ w0.heap.size < F
  res : W.heap[w0.heap.size]? = some (.cells #[.int .i64 0, .string ⟨#[]⟩, .slice none 0 0, .int .i64 0, .string ⟨#[]⟩] 29 (0, 0))
  small : ∀ v ∈ L, v.small
  sn : nm.size ≤ 1048576
  su : un.size ≤ 1048576
  bsz : b ≤ W.heap.size
theorem DrwT.lt {w0 W : World} {B q b F : Nat} {K : Int} {nm : ByteArray} {v : Value} {L : List X11} {N : Int} {un : ByteArray} (h : DrwT w0 B q b F K nm v L N un W) : F < W.heap.size := (Array.getElem?_eq_some_iff.1 h.box).1
theorem DrwT.ne {w0 W : World} {B q b F : Nat} {K : Int} {nm : ByteArray} {v : Value} {L : List X11} {N : Int} {un : ByteArray} (h : DrwT w0 B q b F K nm v L N un W) {k : Nat} (hk : k ≤ w0.heap.size) : v.ownBlock ≠ some k := fun e => by have := (h.row.lt k e).1; have := h.far; omega
theorem DrwT.drew {w0 W : World} {B q b F : Nat} {K : Int} {nm : ByteArray} {v : Value} {L : List X11} {N : Int} {un : ByteArray} (h : DrwT w0 B q b F K nm v L N un W) : DrwT w0 B q b F K nm v L N un W.drew :=
  ⟨h.cur, h.box, h.row, h.rne, ⟨h.gr.os, h.gr.tape, h.gr.output, h.gr.size, h.gr.block⟩, h.far, h.res, h.small, h.sn, h.su, h.bsz⟩
theorem DrwT.draws {w0 W W' : World} {B q b F : Nat} {K : Int} {nm : ByteArray} {v : Value} {L : List X11} {N : Int} {un : ByteArray} (h : DrwT w0 B q b F K nm v L N un W) (c : Cur B W' q) (g : W.grownBy W' (some q)) : DrwT w0 B q b F K nm v L N un W' :=
  ⟨c, box_grown h.box g (by have := h.far; omega), h.row.kept g (.inr (h.ne (by have := h.far; omega))), h.rne, grown_trans h.gr g, h.far, box_grown h.res g (by have := h.far; omega), h.small, h.sn, h.su, Nat.le_trans h.bsz g.size⟩
theorem DrwT.alloc {w0 W : World} {B q b F : Nat} {K : Int} {nm : ByteArray} {v : Value} {L : List X11} {N : Int} {un : ByteArray} (h : DrwT w0 B q b F K nm v L N un W) (o : Obj) : DrwT w0 B q b F K nm v L N un (W.alloc o) :=
  ⟨h.cur.keep (World.grownBy_alloc W o none) (by simp) (by simp), box_alloc h.box o, h.row.alloc o, h.rne, grown_trans h.gr (grown_alloc W o q), h.far, box_alloc h.res o, h.small, h.sn, h.su, Nat.le_trans h.bsz (World.grownBy_alloc W o none).size⟩
theorem DrwT.kind {w0 W : World} {B q b F : Nat} {K : Int} {nm : ByteArray} {v : Value} {L : List X11} {N : Int} {un : ByteArray} (h : DrwT w0 B q b F K nm v L N un W) (K' : Int)  : DrwT w0 B q b F K' nm v L N un (W.setCell ⟨F, 0, none⟩ (.int .i64 K')) := by
  obtain ⟨hb, gr⟩ := boxk_set h.box 0 (.int .i64 K')
  have o := h.far
  have hc := h.cur.1
  exact ⟨h.cur.keep gr (by simp; omega) (fun k hk => by cases hk; omega), hb, h.row.kept gr (.inr h.rne), h.rne, grown_more h.gr gr (fun k hk => by cases hk; omega), o, box_grown h.res gr (by omega), h.small, h.sn, h.su, Nat.le_trans h.bsz gr.size⟩
theorem DrwT.name {w0 W : World} {B q b F : Nat} {K : Int} {nm : ByteArray} {v : Value} {L : List X11} {N : Int} {un : ByteArray} (h : DrwT w0 B q b F K nm v L N un W) (nm' : ByteArray) (hs : nm'.size ≤ 1048576) : DrwT w0 B q b F K nm' v L N un (W.setCell ⟨F, 1, none⟩ (.string nm')) := by
  obtain ⟨hb, gr⟩ := boxk_set h.box 1 (.string nm')
  have o := h.far
  have hc := h.cur.1
  exact ⟨h.cur.keep gr (by simp; omega) (fun k hk => by cases hk; omega), hb, h.row.kept gr (.inr h.rne), h.rne, grown_more h.gr gr (fun k hk => by cases hk; omega), o, box_grown h.res gr (by omega), h.small, hs, h.su, Nat.le_trans h.bsz gr.size⟩
theorem DrwT.num {w0 W : World} {B q b F : Nat} {K : Int} {nm : ByteArray} {v : Value} {L : List X11} {N : Int} {un : ByteArray} (h : DrwT w0 B q b F K nm v L N un W) (N' : Int)  : DrwT w0 B q b F K nm v L N' un (W.setCell ⟨F, 3, none⟩ (.int .i64 N')) := by
  obtain ⟨hb, gr⟩ := boxk_set h.box 3 (.int .i64 N')
  have o := h.far
  have hc := h.cur.1
  exact ⟨h.cur.keep gr (by simp; omega) (fun k hk => by cases hk; omega), hb, h.row.kept gr (.inr h.rne), h.rne, grown_more h.gr gr (fun k hk => by cases hk; omega), o, box_grown h.res gr (by omega), h.small, h.sn, h.su, Nat.le_trans h.bsz gr.size⟩
theorem DrwT.undo {w0 W : World} {B q b F : Nat} {K : Int} {nm : ByteArray} {v : Value} {L : List X11} {N : Int} {un : ByteArray} (h : DrwT w0 B q b F K nm v L N un W) (un' : ByteArray) (hs : un'.size ≤ 1048576) : DrwT w0 B q b F K nm v L N un' (W.setCell ⟨F, 4, none⟩ (.string un')) := by
  obtain ⟨hb, gr⟩ := boxk_set h.box 4 (.string un')
  have o := h.far
  have hc := h.cur.1
  exact ⟨h.cur.keep gr (by simp; omega) (fun k hk => by cases hk; omega), hb, h.row.kept gr (.inr h.rne), h.rne, grown_more h.gr gr (fun k hk => by cases hk; omega), o, box_grown h.res gr (by omega), h.small, h.sn, hs, Nat.le_trans h.bsz gr.size⟩
/-- a term appended, and the row stored into the act -/
theorem DrwT.grew {w0 W W' : World} {B q b F : Nat} {K : Int} {nm : ByteArray} {v : Value} {L : List X11} {N : Int} {un : ByteArray} {g cap H : Nat} {u : X11} (h : DrwT w0 B q b F K nm v L N un W) (hu : u.small)
    (ho : W'.ownsRow b 41 11 (.slice (some ⟨g, 0, none⟩) (L.length + 1) cap) (L.length + 1) (rowOf X11.cs L ++ u.cs)) (hg : W.grownBy W' v.ownBlock) (hat : v.ownBlock = some g ∨ g = H) (hH : W.heap.size = H) :
    W'.cell? ⟨F, 2, none⟩ = some v ∧ W'.frozen? ⟨F, 2, none⟩ = false ∧ DrwT w0 B q b F K nm (.slice (some ⟨g, 0, none⟩) (L.length + 1) cap) (L ++ [u]) N un (W'.setCell ⟨F, 2, none⟩ (.slice (some ⟨g, 0, none⟩) (L.length + 1) cap)) := by
  have hF := h.lt
  have o := h.far
  have hc := h.cur.1
  have hgF : g ≠ F := by
    rcases hat with e | e
    · exact fun e2 => h.rne (by rw [e, e2])
    · omega
  have hb : W'.heap[F]? = some (.cells #[.int .i64 K, .string nm, v, .int .i64 N, .string un] 29 (0, 0)) := by rw [hg.block F hF (fun e => h.rne e.symm)]; exact h.box
  have c2 := boxk_cell hb 2 _ rfl
  have f2 := boxk_frozen hb 2
  obtain ⟨hb2, gr2⟩ := boxk_set hb 2 (.slice (some ⟨g, 0, none⟩) (L.length + 1) cap)
  have hres : W'.heap[w0.heap.size]? = some (.cells #[.int .i64 0, .string ⟨#[]⟩, .slice none 0 0, .int .i64 0, .string ⟨#[]⟩] 29 (0, 0)) := by rw [hg.block _ (Array.getElem?_eq_some_iff.1 h.res).1 (fun e => h.ne (Nat.le_refl _) e.symm)]; exact h.res
  refine ⟨c2, f2, ?_, hb2, ?_, by simp [Value.ownBlock]; exact hgF, ?_, o, box_grown hres gr2 (by omega), ?_, h.sn, h.su, Nat.le_trans h.bsz (Nat.le_trans hg.size gr2.size)⟩
  · refine (h.cur.keep hg (h.ne (by omega)) (fun k hk => ?_)).keep gr2 (by simp; omega) (fun k hk => by cases hk; omega)
    have := (h.row.lt k hk).1
    omega
  · have := ho.kept gr2 (.inr (by simp [Value.ownBlock]; exact hgF))
    rw [show rowOf X11.cs L ++ u.cs = rowOf X11.cs (L ++ [u]) by rw [rowOf_append]; simp [rowOf]] at this
    rw [List.length_append]
    exact this
  · refine grown_more (grown_more h.gr hg (fun k hk => ?_)) gr2 (fun k hk => by cases hk; omega)
    have := (h.row.lt k hk).1
    omega
  · intro x hx
    rcases List.mem_append.1 hx with hx | hx
    · exact h.small x hx
    · simp only [List.mem_cons, List.not_mem_nil, or_false] at hx
      rw [hx]; exact hu
theorem DrwT.slice {w0 W : World} {B q b F : Nat} {K : Int} {nm : ByteArray} {v : Value} {L : List X11} {N : Int} {un : ByteArray} (h : DrwT w0 B q b F K nm v L N un W) : ∃ a c, v = .slice a L.length c := by
  rcases h.row.2 with ⟨h, h0⟩ | ⟨g, cp, _, h, _⟩
  · exact ⟨_, 0, by rw [h0]; exact h⟩
  · exact ⟨_, _, h⟩
/-- some act was drawn, of at most m terms -/
def DrawnT (w : World) (B q m : Nat) (e : Ending) (w' : World) : Prop := ∃ (K : Int) (nm : ByteArray) (v : Value) (L : List X11) (N : Int) (un : ByteArray), e = .returned (.agg #[.int .i64 K, .string nm, v, .int .i64 N, .string un]) ∧ L.length ≤ m ∧ nm.size ≤ 1048576 ∧ un.size ≤ 1048576 ∧ (∀ x ∈ L, x.small) ∧ w'.ownsRow w.heap.size 41 11 v L.length (rowOf X11.cs L) ∧ Cur B w' q ∧ w.grownBy w' (some q)
/-- at the end: the act laid into the result -/
theorem DrwT.done {m : Nat} {w0 W : World} {B q b F : Nat} {K : Int} {nm : ByteArray} {v : Value} {L : List X11} {N : Int} {un : ByteArray} (h : DrwT w0 B q b F K nm v L N un W) (hL : L.length ≤ m) {w9 : World} (gr : W.grownBy w9 (some w0.heap.size)) : DrawnT w0 B q m (.returned (.agg #[.int .i64 K, .string nm, v, .int .i64 N, .string un])) w9 := by
  have far := h.far
  have hc := h.cur.1
  exact ⟨K, nm, v, L, N, un, rfl, hL, h.sn, h.su, h.small, owns_base (h.row.kept gr (.inr (h.ne (Nat.le_refl _)))) (by omega), h.cur.keep gr (by simp; omega) (fun k hk => by cases hk; omega), grown_more h.gr gr (fun k hk => by cases hk; exact Nat.le_refl _)⟩
end Go.Proofs.YtaflokfgbmlmaacDoor
