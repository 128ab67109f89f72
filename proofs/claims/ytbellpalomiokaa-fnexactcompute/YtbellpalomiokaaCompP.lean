/-
  What a term computes, plainly: compO.
-/
import Derived.Test.YtbellpalomiokaaArgVal
import Derived.Test.YtbellpalomiokaaSumD
import Derived.Test.YtbellpalomiokaaExprRow
import Derived.Test.YtbellpalomiokaaExprOk
namespace Go.Proofs.Ytbellpalomiokaa
open Go.RowKit
set_option linter.unusedVariables false

/-- at a return behind a store of all three cells, of which the walk has moved an alloc to the end -/
theorem box_post_al {P : Program} {f : Func} {Q : Ending → World → Prop} {x : Exit} {act : Act} {w : World} {q : Nat} {c0 c1 c2 a b c : Value} {T : TypeId} {o : Obj} (h : w.heap[q]? = some (.cells #[c0, c1, c2] T (0, 0)))
    (k : ∀ w2, w2.heap[q]? = some (.cells #[a, b, c] T (0, 0)) → w.grownBy w2 (some q) → bodyPost P f Q x act w2) :
    bodyPost P f Q x act ((((w.setCell ⟨q, 0, none⟩ a).setCell ⟨q, 1, none⟩ b).setCell ⟨q, 2, none⟩ c).alloc o) :=
  k _ (box_old (box_set3 h a b c).1 (Array.getElem?_eq_some_iff.1 (box_set3 h a b c).1).1 o) (grown_tt (box_set3 h a b c).2 (World.grownBy_alloc _ _ _))
/-- a value, or the zero one -/
def oz : Option V3 → V3
  | some v => v
  | none => ⟨0, 0, ⟨#[]⟩⟩
theorem bindA_oz (o : Option V3) : bindA o = .tuple #[.agg #[.int .i64 (oz o).K, .int .i64 (oz o).N, .string (oz o).S], .bool o.isSome] := by
  cases o <;> rfl
/-- a sum or a difference n of two values -/
def sumO (v u : V3) (n : Int) : Option V3 := if (isNum v.K v.N v.S && isNum u.K u.N u.S && inB n (-1000000000) 1000000000) = true then some ⟨1, n, ⟨#[]⟩⟩ else none
theorem sumO_bind (v u : V3) (n : Int) : sumV v.K v.N v.S u.K u.N u.S n = bindA (sumO v u n) := by
  unfold sumV sumO
  cases (isNum v.K v.N v.S && isNum u.K u.N u.S && inB n (-1000000000) 1000000000) <;> rfl
def addO (v u : V3) : Option V3 := sumO v u (numN v.K v.N v.S + numN u.K u.N u.S)
def subO (v u : V3) : Option V3 := sumO v u (numN v.K v.N v.S - numN u.K u.N u.S)
theorem sumO_z1 (u : V3) (n : Int) : sumO ⟨0, 0, ⟨#[]⟩⟩ u n = none := by
  unfold sumO isNum; simp
theorem sumO_z2 (v : V3) (n : Int) : sumO v ⟨0, 0, ⟨#[]⟩⟩ n = none := by
  unfold sumO isNum; simp
theorem addO_z1 (u : V3) : addO (oz none) u = none := sumO_z1 u _
theorem addO_z2 (v : V3) : addO v (oz none) = none := sumO_z2 v _
theorem subO_z1 (u : V3) : subO (oz none) u = none := sumO_z1 u _
theorem subO_z2 (v : V3) : subO v (oz none) = none := sumO_z2 v _
/-- a term's value of those of its sides -/
def compV (Op : ByteArray) (a b : Option V3) : Option V3 :=
  match a with
  | none => none
  | some v => if Op.size = 0 then some v else match b with
    | none => none
    | some u => if Op = ⟨#[43]⟩ then addO v u else if Op = ⟨#[45]⟩ then subO v u else none
theorem compV0 (a b : Option V3) : compV ⟨#[]⟩ a b = a := by cases a <;> rfl
theorem compV1 (a b : Option V3) : compV ⟨#[43]⟩ a b = addO (oz a) (oz b) := by
  cases a with
  | none => rw [addO_z1]; rfl
  | some v => cases b with
    | none => rw [addO_z2]; rfl
    | some u =>
      show (if (⟨#[43]⟩ : ByteArray).size = 0 then some v else if (⟨#[43]⟩ : ByteArray) = ⟨#[43]⟩ then addO v u else if (⟨#[43]⟩ : ByteArray) = ⟨#[45]⟩ then subO v u else none) = addO v u
      rw [if_neg (show ¬ (⟨#[43]⟩ : ByteArray).size = 0 by decide), if_pos rfl]
theorem compV2 (a b : Option V3) : compV ⟨#[45]⟩ a b = subO (oz a) (oz b) := by
  cases a with
  | none => rw [subO_z1]; rfl
  | some v => cases b with
    | none => rw [subO_z2]; rfl
    | some u =>
      show (if (⟨#[45]⟩ : ByteArray).size = 0 then some v else if (⟨#[45]⟩ : ByteArray) = ⟨#[43]⟩ then addO v u else if (⟨#[45]⟩ : ByteArray) = ⟨#[45]⟩ then subO v u else none) = subO v u
      rw [if_neg (show ¬ (⟨#[45]⟩ : ByteArray).size = 0 by decide), if_neg (by decide), if_pos rfl]
theorem compV_no {Op : ByteArray} (a b : Option V3) (h0 : Op.size ≠ 0) (h1 : Op ≠ ⟨#[43]⟩) (h2 : Op ≠ ⟨#[45]⟩) : compV Op a b = none := by
  cases a with
  | none => rfl
  | some v => cases b with
    | none =>
      show (if Op.size = 0 then some v else none) = none
      rw [if_neg h0]
    | some u =>
      show (if (Op : ByteArray).size = 0 then some v else if (Op : ByteArray) = ⟨#[43]⟩ then addO v u else if (Op : ByteArray) = ⟨#[45]⟩ then subO v u else none) = none
      rw [if_neg h0, if_neg h1, if_neg h2]
def compO (x : X11) (B : List B4) : Option V3 := compV x.Op (argV x.L.K x.L.S x.L.V B) (argV x.R.K x.R.S x.R.V B)
theorem argV_small {K : Int} {S : ByteArray} {V : V3} {B : List B4} (hv : V.S.size ≤ 1048576) (hb : ∀ x ∈ B, x.small) : (oz (argV K S V B)).S.size ≤ 1048576 := by
  unfold argV
  split
  · cases h : bindO B S with
    | none => show (0 : Nat) ≤ _; omega
    | some v =>
      obtain ⟨x, hx, _, rfl⟩ := bindO_mem h
      exact (hb x hx).2
  · split
    · exact hv
    · show (0 : Nat) ≤ _; omega
theorem sumO_text {v u x : V3} {n : Int} (h : sumO v u n = some x) : x.S = ⟨#[]⟩ := by
  unfold sumO at h
  split at h
  · cases h; rfl
  · cases h
theorem compO_small {x : X11} {B : List B4} {v : V3} (hx : x.small) (hb : ∀ y ∈ B, y.small) (h : compO x B = some v) : v.S.size ≤ 1048576 := by
  have hA := argV_small (K := x.L.K) (S := x.L.S) (V := x.L.V) hx.2.1.2 hb
  unfold compO at h
  generalize argV x.L.K x.L.S x.L.V B = a at h hA
  generalize argV x.R.K x.R.S x.R.V B = b at h
  rcases op_cases x.Op with e | e | e | ⟨_, _, _, h0, h1, h2⟩
  · rw [e, compV0] at h; rw [h] at hA; exact hA
  · rw [e, compV1] at h; rw [sumO_text h]; decide
  · rw [e, compV2] at h; rw [sumO_text h]; decide
  · rw [compV_no a b h0 h1 h2] at h; cases h
end Go.Proofs.Ytbellpalomiokaa
