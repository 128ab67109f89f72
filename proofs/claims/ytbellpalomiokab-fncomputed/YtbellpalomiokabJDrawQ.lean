/-
  The contracts of the draws of any pattern and any argument: some, whatever they are, with short texts.
-/
import Derived.Test.YtbellpalomiokabJDrawPt
import Derived.Test.YtbellpalomiokabJDrawA
namespace Go.Proofs.Ytbellpalomiokab
open Go.RowKit
set_option linter.unusedVariables false

/-- a pattern on the way: its block F, its row of arguments in another block -/
structure DrwQ (w0 : World) (B q b F : Nat) (kd : ByteArray) (nt : Bool) (v : Value) (L : List A5) (W : World) : Prop where
  cur : Cur B W q
  box : W.heap[F]? = some (.cells #[.string kd, v, .bool nt] 37 (0, 0))
  row : W.ownsRow b 49 5 v L.length (rowOf A5.cs L)
  rne : v.ownBlock ≠ some F
  gr : w0.grownBy W (some q)
  far : q < w0.heap.size ∧ w0.heap.size < b ∧ w0.heap.size < F
  res : W.heap[w0.heap.size]? = some (.cells #[.string ⟨#[]⟩, .slice none 0 0, .bool false] 37 (0, 0))
  small : ∀ v ∈ L, v.small
  bsz : b ≤ W.heap.size
theorem DrwQ.lt {w0 W : World} {B q b F : Nat} {kd : ByteArray} {nt : Bool} {v : Value} {L : List A5} (h : DrwQ w0 B q b F kd nt v L W) : F < W.heap.size := (Array.getElem?_eq_some_iff.1 h.box).1
theorem DrwQ.ne {w0 W : World} {B q b F : Nat} {kd : ByteArray} {nt : Bool} {v : Value} {L : List A5} (h : DrwQ w0 B q b F kd nt v L W) {k : Nat} (hk : k ≤ w0.heap.size) : v.ownBlock ≠ some k := fun e => by have := (h.row.lt k e).1; have := h.far; omega
theorem DrwQ.drew {w0 W : World} {B q b F : Nat} {kd : ByteArray} {nt : Bool} {v : Value} {L : List A5} (h : DrwQ w0 B q b F kd nt v L W) : DrwQ w0 B q b F kd nt v L W.drew :=
  ⟨h.cur, h.box, h.row, h.rne, ⟨h.gr.os, h.gr.tape, h.gr.output, h.gr.size, h.gr.block⟩, h.far, h.res, h.small, h.bsz⟩
theorem DrwQ.draws {w0 W W' : World} {B q b F : Nat} {kd : ByteArray} {nt : Bool} {v : Value} {L : List A5} (h : DrwQ w0 B q b F kd nt v L W) (c : Cur B W' q) (g : W.grownBy W' (some q)) : DrwQ w0 B q b F kd nt v L W' :=
  ⟨c, box_grown h.box g (by have := h.far; omega), h.row.kept g (.inr (h.ne (by have := h.far; omega))), h.rne, grown_trans h.gr g, h.far, box_grown h.res g (by have := h.far; omega), h.small, Nat.le_trans h.bsz g.size⟩
theorem DrwQ.alloc {w0 W : World} {B q b F : Nat} {kd : ByteArray} {nt : Bool} {v : Value} {L : List A5} (h : DrwQ w0 B q b F kd nt v L W) (o : Obj) : DrwQ w0 B q b F kd nt v L (W.alloc o) :=
  ⟨h.cur.keep (World.grownBy_alloc W o none) (by simp) (by simp), box_alloc h.box o, h.row.alloc o, h.rne, grown_trans h.gr (grown_alloc W o q), h.far, box_alloc h.res o, h.small, Nat.le_trans h.bsz (World.grownBy_alloc W o none).size⟩
theorem DrwQ.kind {w0 W : World} {B q b F : Nat} {kd : ByteArray} {nt : Bool} {v : Value} {L : List A5} (h : DrwQ w0 B q b F kd nt v L W) (kd' : ByteArray) : DrwQ w0 B q b F kd' nt v L (W.setCell ⟨F, 0, none⟩ (.string kd')) := by
  obtain ⟨hb, gr⟩ := boxk_set h.box 0 (.string kd')
  have o := h.far
  have hc := h.cur.1
  exact ⟨h.cur.keep gr (by simp; omega) (fun k hk => by cases hk; omega), hb, h.row.kept gr (.inr h.rne), h.rne, grown_more h.gr gr (fun k hk => by cases hk; omega), o, box_grown h.res gr (by omega), h.small, Nat.le_trans h.bsz gr.size⟩
/-- an argument appended, and the row stored into the pattern -/
theorem DrwQ.grew {w0 W W' : World} {B q b F g cap H : Nat} {kd : ByteArray} {nt : Bool} {v : Value} {L : List A5} {u : A5} (h : DrwQ w0 B q b F kd nt v L W) (hu : u.small)
    (ho : W'.ownsRow b 49 5 (.slice (some ⟨g, 0, none⟩) (L.length + 1) cap) (L.length + 1) (rowOf A5.cs L ++ u.cs)) (hg : W.grownBy W' v.ownBlock) (hat : v.ownBlock = some g ∨ g = H) (hH : W.heap.size = H) :
    W'.cell? ⟨F, 1, none⟩ = some v ∧ W'.frozen? ⟨F, 1, none⟩ = false ∧ DrwQ w0 B q b F kd nt (.slice (some ⟨g, 0, none⟩) (L.length + 1) cap) (L ++ [u]) (W'.setCell ⟨F, 1, none⟩ (.slice (some ⟨g, 0, none⟩) (L.length + 1) cap)) := by
  have hF := h.lt
  have o := h.far
  have hc := h.cur.1
  have hgF : g ≠ F := by
    rcases hat with e | e
    · exact fun e2 => h.rne (by rw [e, e2])
    · omega
  have hb : W'.heap[F]? = some (.cells #[.string kd, v, .bool nt] 37 (0, 0)) := by rw [hg.block F hF (fun e => h.rne e.symm)]; exact h.box
  obtain ⟨-, c1, -, -, f1, -⟩ := box_cell hb
  obtain ⟨hb2, gr2⟩ := box3_set1 hb (.slice (some ⟨g, 0, none⟩) (L.length + 1) cap)
  have hres : W'.heap[w0.heap.size]? = some (.cells #[.string ⟨#[]⟩, .slice none 0 0, .bool false] 37 (0, 0)) := by rw [hg.block _ (Array.getElem?_eq_some_iff.1 h.res).1 (fun e => h.ne (Nat.le_refl _) e.symm)]; exact h.res
  refine ⟨c1, f1, ?_, hb2, ?_, by simp [Value.ownBlock]; exact hgF, ?_, o, box_grown hres gr2 (by omega), ?_, Nat.le_trans h.bsz (Nat.le_trans hg.size gr2.size)⟩
  · refine (h.cur.keep hg (h.ne (by omega)) (fun k hk => ?_)).keep gr2 (by simp; omega) (fun k hk => by cases hk; omega)
    have := (h.row.lt k hk).1
    omega
  · have := ho.kept gr2 (.inr (by simp [Value.ownBlock]; exact hgF))
    rw [show rowOf A5.cs L ++ u.cs = rowOf A5.cs (L ++ [u]) by rw [rowOf_append]; simp [rowOf]] at this
    rw [List.length_append]
    exact this
  · refine grown_more (grown_more h.gr hg (fun k hk => ?_)) gr2 (fun k hk => by cases hk; omega)
    have := (h.row.lt k hk).1
    omega
  · intro x hx
    rcases List.mem_append.1 hx with hx | hx
    · exact h.small x hx
    · simp only [List.mem_cons, List.not_mem_nil, or_false] at hx
      rw [hx]; exact hu

theorem strs_small {s : ByteArray} (hx : s ∈ ([⟨#[]⟩, ⟨#[120]⟩, ⟨#[88]⟩] : List ByteArray)) : s.size ≤ 1048576 := by
  simp only [List.mem_cons, List.not_mem_nil, or_false] at hx
  rcases hx with rfl | rfl | rfl <;> decide
def lenAt (o : Option Value) : Nat := match o with
  | some (.slice _ n _) => n
  | _ => 0
theorem lenAt_slice (a : Option Addr) (n c : Nat) : lenAt (some (.slice a n c)) = n := rfl
/-- some pattern was drawn, of at most eight arguments -/
def DrawnQ (w : World) (B q : Nat) (e : Ending) (w' : World) : Prop := ∃ (kd : ByteArray) (nt : Bool) (v : Value) (L : List A5), e = .returned (.agg #[.string kd, v, .bool nt]) ∧ L.length ≤ 8 ∧ kd.size ≤ 21 ∧ (∀ x ∈ L, x.small) ∧ w'.ownsRow w.heap.size 49 5 v L.length (rowOf A5.cs L) ∧ Cur B w' q ∧ w.grownBy w' (some q)
/-- at the end: the pattern laid into the result -/
theorem DrwQ.done {w W : World} {B q b F : Nat} {kd : ByteArray} {nt : Bool} {v : Value} {L : List A5} (h : DrwQ w B q b F kd nt v L W) (hL : L.length ≤ 8) (hk : kd.size ≤ 21) {w9 : World} (gr : W.grownBy w9 (some w.heap.size)) : DrawnQ w B q (.returned (.agg #[.string kd, v, .bool nt])) w9 := by
  have far := h.far
  have hc := h.cur.1
  exact ⟨kd, nt, v, L, rfl, hL, hk, h.small, owns_base (h.row.kept gr (.inr (h.ne (Nat.le_refl _)))) (by omega), h.cur.keep gr (by simp; omega) (fun k hk => by cases hk; omega), grown_more h.gr gr (fun k hk => by cases hk; exact Nat.le_refl _)⟩
end Go.Proofs.Ytbellpalomiokab
