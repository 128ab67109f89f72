/-
  Texts of this claim joined into one: BindP, MatchP, ItemRow, StoreArg, ToFact, LawStore, ToStore, CopyF, KeepF, EqStore, FactOf, IntRow, IntArg, BindsFP, BindOf, LawBind, Src4, MatchI.
-/
import Derived.Test.YtfgigcdfmkfkjaaJoined1
import Derived.OwnWalk
import Derived.Deep.AppendLies
import Derived.Deep.Upon
import Derived.Deep.RegionWith
import Derived.Deep.RegionHeld3
import Derived.Deep.QuietTactic
import Derived.BigQuiet
import Derived.Handy
import Derived.ArgAppend
/-
  What is bound to a name, plainly.
-/
namespace Go.Proofs.Ytfgigcdfmkfkjaa
open Go.RowKit
set_option linter.unusedVariables false

/-- the value of the first of this name -/
def bindO : List B4 → ByteArray → Option V3
  | [], _ => none
  | x :: r, s => if x.N = s then some x.V else bindO r s
theorem bindO_at : ∀ {L : List B4} {s : ByteArray} {k : Nat}, k < L.length → (∀ j, j < k → (eAt L j).N ≠ s) → (eAt L k).N = s → bindO L s = some (eAt L k).V
  | [], _, k, h, _, _ => absurd h (Nat.not_lt_zero _)
  | x :: r, s, 0, _, _, h => by
    have h' : x.N = s := h
    unfold bindO; rw [if_pos h']; rfl
  | x :: r, s, k + 1, hk, hj, h => by
    have h0 : x.N ≠ s := hj 0 (by omega)
    unfold bindO
    rw [if_neg h0]
    exact bindO_at (by simpa using hk) (fun j hjk => hj (j + 1) (by omega)) h
theorem bindO_none : ∀ {L : List B4} {s : ByteArray}, (∀ j, j < L.length → (eAt L j).N ≠ s) → bindO L s = none
  | [], _, _ => rfl
  | x :: r, s, h => by
    have h0 : x.N ≠ s := h 0 (by simp)
    unfold bindO
    rw [if_neg h0]
    exact bindO_none (fun j hj => h (j + 1) (by simpa using hj))
/-- what BindOf answers -/
def bindA (o : Option V3) : Value := match o with
  | some v => .tuple #[.agg #[.int .i64 v.K, .int .i64 v.N, .string v.S], .bool true]
  | none => .tuple #[.agg #[.int .i64 0, .int .i64 0, .string ⟨#[]⟩], .bool false]
theorem bindO_mem : ∀ {L : List B4} {s : ByteArray} {v : V3}, bindO L s = some v → ∃ x ∈ L, x.N = s ∧ x.V = v
  | [], _, _, h => by cases h
  | x :: r, s, v, h => by
    unfold bindO at h
    by_cases hx : x.N = s
    · rw [if_pos hx] at h
      exact ⟨x, List.mem_cons_self, hx, by simpa using h⟩
    · rw [if_neg hx] at h
      obtain ⟨y, hy, e⟩ := bindO_mem h
      exact ⟨y, List.mem_cons_of_mem _ hy, e⟩
theorem bindA_form (o : Option V3) : ∃ (K N : Int) (S : ByteArray) (b : Bool), bindA o = .tuple #[.agg #[.int .i64 K, .int .i64 N, .string S], .bool b] := by
  cases o with
  | none => exact ⟨_, _, _, _, rfl⟩
  | some v => exact ⟨_, _, _, _, rfl⟩
end Go.Proofs.Ytfgigcdfmkfkjaa
/-
  What a pattern binds, plainly.
-/
namespace Go.Proofs.Ytfgigcdfmkfkjaa
open Go.RowKit
set_option linter.unusedVariables false

/-- one argument held against one value -/
def stepM (M : List B4) (x : A5) (u : V3) : List B4 × Bool :=
  if x.K = 1 then (match bindO M x.S with
    | some v => (M, decide (v = u))
    | none => (M ++ [⟨x.S, u⟩], true))
  else if x.K = 2 then (M, decide (x.V = u)) else (M, true)
/-- behind k arguments -/
def matchK (L : List A5) (F : List V3) (M0 : List B4) : Nat → Option (List B4)
  | 0 => some M0
  | k + 1 => match matchK L F M0 k with
    | none => none
    | some M => if (stepM M (eAt L k) (vAt F k)).2 = true then some (stepM M (eAt L k) (vAt F k)).1 else none
/-- what MatchPat answers -/
def matchR (kd kd' : ByteArray) (L : List A5) (F : List V3) (M0 : List B4) : List B4 × Bool :=
  if kd = kd' ∧ L.length = F.length then (match matchK L F M0 L.length with
    | some M => (M, true)
    | none => (M0, false))
  else (M0, false)
theorem matchK_none {L : List A5} {F : List V3} {M0 : List B4} : ∀ {k j : Nat}, matchK L F M0 k = none → k ≤ j → matchK L F M0 j = none
  | k, 0, h, hj => by
    obtain rfl : k = 0 := by omega
    exact h
  | k, j + 1, h, hj => by
    by_cases hk : k = j + 1
    · rw [← hk]; exact h
    · show (match matchK L F M0 j with | none => none | some M => _) = none
      rw [matchK_none h (show k ≤ j by omega)]
theorem matchK_step {L : List A5} {F : List V3} {M0 M : List B4} {k : Nat} (h : matchK L F M0 k = some M) (hb : (stepM M (eAt L k) (vAt F k)).2 = true) : matchK L F M0 (k + 1) = some (stepM M (eAt L k) (vAt F k)).1 := by
  show (match matchK L F M0 k with | none => none | some M => _) = _
  rw [h]
  simp only
  rw [if_pos hb]
theorem matchK_fail {L : List A5} {F : List V3} {M0 M : List B4} {k : Nat} (h : matchK L F M0 k = some M) (hb : (stepM M (eAt L k) (vAt F k)).2 = false) : matchK L F M0 (k + 1) = none := by
  show (match matchK L F M0 k with | none => none | some M => _) = _
  rw [h]
  simp only
  rw [if_neg (by rw [hb]; simp)]
theorem matchR_kind {kd kd' : ByteArray} {L : List A5} {F : List V3} {M0 : List B4} (h : kd ≠ kd') : matchR kd kd' L F M0 = (M0, false) := by unfold matchR; rw [if_neg (fun e => h e.1)]
theorem matchR_len {kd kd' : ByteArray} {L : List A5} {F : List V3} {M0 : List B4} (h : L.length ≠ F.length) : matchR kd kd' L F M0 = (M0, false) := by unfold matchR; rw [if_neg (fun e => h e.2)]
theorem matchR_fail {kd : ByteArray} {L : List A5} {F : List V3} {M0 : List B4} {k : Nat} (hl : L.length = F.length) (hk : k ≤ L.length) (h : matchK L F M0 k = none) : matchR kd kd L F M0 = (M0, false) := by
  unfold matchR; rw [if_pos ⟨rfl, hl⟩, matchK_none h hk]
theorem matchR_yes {kd : ByteArray} {L : List A5} {F : List V3} {M0 M : List B4} (hl : L.length = F.length) (h : matchK L F M0 L.length = some M) : matchR kd kd L F M0 = (M, true) := by
  unfold matchR; rw [if_pos ⟨rfl, hl⟩, h]
theorem stepM_len (M : List B4) (x : A5) (u : V3) : (stepM M x u).1.length ≤ M.length + 1 := by
  unfold stepM
  split
  · split <;> simp
  · split <;> simp
theorem matchK_len {L : List A5} {F : List V3} {M0 : List B4} : ∀ {k : Nat} {M : List B4}, matchK L F M0 k = some M → M.length ≤ M0.length + k
  | 0, M, h => by
    have : M0 = M := by simpa [matchK] using h
    rw [this]; omega
  | k + 1, M, h => by
    cases hk : matchK L F M0 k with
    | none => rw [matchK_none hk (Nat.le_succ _)] at h; cases h
    | some M1 =>
      have h1 := matchK_len hk
      cases hb : (stepM M1 (eAt L k) (vAt F k)).2
      · rw [matchK_fail hk hb] at h; cases h
      · rw [matchK_step hk hb] at h
        have := stepM_len M1 (eAt L k) (vAt F k)
        simp only [Option.some.injEq] at h
        rw [← h]; omega
theorem stepM_small {M : List B4} {x : A5} {u : V3} (hM : ∀ y ∈ M, y.small) (hx : x.small) (hu : u.S.size ≤ 1048576) : ∀ y ∈ (stepM M x u).1, y.small := by
  unfold stepM
  split
  · split
    · exact hM
    · intro y hy
      rcases List.mem_append.1 hy with h | h
      · exact hM y h
      · simp only [List.mem_cons, List.not_mem_nil, or_false] at h
        rw [h]; exact ⟨hx.1, hu⟩
  · split <;> exact hM
theorem matchK_small {L : List A5} {F : List V3} {M0 : List B4} (hM : ∀ y ∈ M0, y.small) (hL : ∀ x ∈ L, x.small) (hF : ∀ u ∈ F, u.S.size ≤ 1048576) (hl : L.length = F.length) : ∀ {k : Nat} {M : List B4}, k ≤ L.length → matchK L F M0 k = some M → ∀ y ∈ M, y.small
  | 0, M, _, h => by
    have : M0 = M := by simpa [matchK] using h
    rw [← this]; exact hM
  | k + 1, M, hk, h => by
    cases h0 : matchK L F M0 k with
    | none => rw [matchK_none h0 (Nat.le_succ _)] at h; cases h
    | some M1 =>
      have h1 := matchK_small hM hL hF hl (by omega) h0
      cases hb : (stepM M1 (eAt L k) (vAt F k)).2
      · rw [matchK_fail h0 hb] at h; cases h
      · rw [matchK_step h0 hb] at h
        simp only [Option.some.injEq] at h
        rw [← h]
        refine stepM_small h1 ?_ ?_
        · rw [eAt_in (by omega)]; exact hL _ (List.getElem_mem _)
        · rw [vAt_in (by omega)]; exact hF _ (List.getElem_mem _)
theorem stepM_K1 {M : List B4} {S : ByteArray} {V u v : V3} (h : bindO M S = some v) : stepM M ⟨1, S, V⟩ u = (M, decide (v = u)) := by unfold stepM; rw [if_pos rfl, h]
theorem stepM_K1n {M : List B4} {S : ByteArray} {V u : V3} (h : bindO M S = none) : stepM M ⟨1, S, V⟩ u = (M ++ [⟨S, u⟩], true) := by unfold stepM; rw [if_pos rfl, h]
theorem stepM_K2 {M : List B4} {S : ByteArray} {V u : V3} : stepM M ⟨2, S, V⟩ u = (M, decide (V = u)) := by unfold stepM; rw [if_neg (show ¬ (2 : Int) = 1 by decide), if_pos rfl]
theorem stepM_no {M : List B4} {K : Int} {S : ByteArray} {V u : V3} (h1 : K ≠ 1) (h2 : K ≠ 2) : stepM M ⟨K, S, V⟩ u = (M, true) := by unfold stepM; rw [if_neg h1, if_neg h2]
theorem matchR_cases (kd kd' : ByteArray) (L : List A5) (F : List V3) (M0 : List B4) : matchR kd kd' L F M0 = (M0, false) ∨ (kd = kd' ∧ L.length = F.length ∧ ∃ M, matchK L F M0 L.length = some M ∧ matchR kd kd' L F M0 = (M, true)) := by
  by_cases h1 : kd = kd'
  · subst h1
    by_cases h2 : L.length = F.length
    · cases h : matchK L F M0 L.length with
      | none => exact .inl (matchR_fail h2 (Nat.le_refl _) h)
      | some M => exact .inr ⟨rfl, h2, M, rfl, matchR_yes h2 h⟩
    · exact .inl (matchR_len h2)
  · exact .inl (matchR_kind h1)
theorem matchR_small (kd kd' : ByteArray) {L : List A5} {F : List V3} {M0 : List B4} (hM : ∀ y ∈ M0, y.small) (hL : ∀ x ∈ L, x.small) (hF : ∀ u ∈ F, u.S.size ≤ 1048576) : ∀ y ∈ (matchR kd kd' L F M0).1, y.small := by
  rcases matchR_cases kd kd' L F M0 with h | ⟨-, hl, M, hM1, h⟩
  · rw [h]; exact hM
  · rw [h]; exact matchK_small hM hL hF hl (Nat.le_refl _) hM1
theorem matchR_len_le (kd kd' : ByteArray) (L : List A5) (F : List V3) (M0 : List B4) : (matchR kd kd' L F M0).1.length ≤ L.length + M0.length := by
  rcases matchR_cases kd kd' L F M0 with h | ⟨-, hl, M, hM1, h⟩
  · rw [h]; simp
  · rw [h]
    have := matchK_len hM1
    simp only
    omega
end Go.Proofs.Ytfgigcdfmkfkjaa
/-
  Items as they lie in memory (It), rows of them, and what a slice of items reads as (RdI).
-/
namespace Go.Proofs.Ytfgigcdfmkfkjaa
open Go.RowKit
set_option linter.unusedVariables false

/-- an item as it lies: its Id, its fact's kind, where the fact's values lie, and which they are -/
structure It where
  id : Int
  kd : ByteArray
  a : Option Addr
  cap : Nat
  L : List V3
instance : Inhabited It := ⟨⟨0, ⟨#[]⟩, none, 0, []⟩⟩
/-- an item, plainly -/
structure P4 where
  id : Int
  kd : ByteArray
  L : List V3
instance : Inhabited P4 := ⟨⟨0, ⟨#[]⟩, []⟩⟩
theorem P4.ext' {a b : P4} (h1 : a.id = b.id) (h2 : a.kd = b.kd) (h3 : a.L = b.L) : a = b := by cases a; cases b; simp_all
def It.pl (x : It) : P4 := ⟨x.id, x.kd, x.L⟩
def It.cells (x : It) : List Value := [.int .i64 x.id, .string x.kd, .slice x.a x.L.length x.cap]
theorem It.cells_length (x : It) : x.cells.length = 3 := rfl
def iAt (J : List It) (i : Nat) : It := J.getD i default
theorem iAt_in {J : List It} {i : Nat} (h : i < J.length) : iAt J i = J[i] := by simp [iAt, List.getD, h]
theorem iAt_set {J : List It} {k : Nat} (h : k < J.length) (x : It) (i : Nat) : iAt (J.set k x) i = if i = k then x else iAt J i := by
  unfold iAt List.getD
  rw [List.getElem?_set]
  by_cases e : k = i
  · subst e; rw [if_pos rfl, if_pos rfl, if_pos h]; rfl
  · rw [if_neg e, if_neg (fun h => e h.symm)]
theorem pl_ext {J K : List It} (hl : J.length = K.length) (h : ∀ i, i < J.length → (iAt J i).pl = (iAt K i).pl) : J.map It.pl = K.map It.pl := by
  apply List.ext_getElem (by simpa using hl)
  intro i h1 h2
  have hi : i < J.length := by simpa using h1
  have := h i hi
  rw [iAt_in hi, iAt_in (by omega)] at this
  simpa using this
theorem pl_len {J K : List It} (h : J.map It.pl = K.map It.pl) : J.length = K.length := by simpa using congrArg List.length h
theorem pl_at {J K : List It} (h : J.map It.pl = K.map It.pl) {i : Nat} (hi : i < J.length) : (iAt J i).id = (iAt K i).id ∧ (iAt J i).kd = (iAt K i).kd ∧ (iAt J i).L = (iAt K i).L := by
  have hk : i < K.length := by rw [← pl_len h]; exact hi
  have e : (J.map It.pl)[i]? = (K.map It.pl)[i]? := by rw [h]
  rw [List.getElem?_map, List.getElem?_map, List.getElem?_eq_getElem hi, List.getElem?_eq_getElem hk] at e
  simp only [Option.map_some, Option.some.injEq, It.pl, P4.mk.injEq] at e
  rw [iAt_in hi, iAt_in hk]
  exact e

/-- what the slice at 'a' reads as -/
def RdI (w : World) (a : Option Addr) (J : List It) : Prop :=
  ∀ i, i < J.length → ∃ b off, a = some ⟨b, off, none⟩ ∧ w.cell? ⟨b, off + i * 3, none⟩ = some (.int .i64 (iAt J i).id) ∧ w.cell? ⟨b, off + i * 3 + 1, none⟩ = some (.string (iAt J i).kd) ∧ w.cell? ⟨b, off + i * 3 + 2, none⟩ = some (.slice (iAt J i).a (iAt J i).L.length (iAt J i).cap) ∧ RdV w (iAt J i).a (iAt J i).L
theorem RdI.open {w : World} {a : Option Addr} {J : List It} (h : RdI w a J) (hp : 0 < J.length) :
    ∃ b off, a = some ⟨b, off, none⟩ ∧ b < w.heap.size ∧ ∀ i, i < J.length → w.cell? ⟨b, off + i * 3, none⟩ = some (.int .i64 (iAt J i).id) ∧ w.cell? ⟨b, off + i * 3 + 1, none⟩ = some (.string (iAt J i).kd) ∧ w.cell? ⟨b, off + i * 3 + 2, none⟩ = some (.slice (iAt J i).a (iAt J i).L.length (iAt J i).cap) ∧ RdV w (iAt J i).a (iAt J i).L := by
  obtain ⟨b, off, rfl, h0, -, -, -⟩ := h 0 hp
  refine ⟨b, off, rfl, World.block_lt_of_cell? w _ h0, fun i hi => ?_⟩
  obtain ⟨b2, off2, e, h1⟩ := h i hi
  simp only [Option.some.injEq, Addr.mk.injEq] at e
  rw [e.1, e.2.1]; exact h1
theorem RdI.below {w w' : World} {a : Option Addr} {J : List It} (h : RdI w a J) (hb : Below w.heap.size w w') : RdI w' a J := by
  intro i hi
  obtain ⟨b, off, e, h0, h1, h2, h3⟩ := h i hi
  have k : ∀ {p : Addr} {v : Value}, w.cell? p = some v → w'.cell? p = some v := fun {p v} h => by rw [hb.cell (World.block_lt_of_cell? w _ h)]; exact h
  exact ⟨b, off, e, k h0, k h1, k h2, h3.below hb⟩
theorem RdI.nil (w : World) (a : Option Addr) : RdI w a [] := fun i hi => absurd hi (Nat.not_lt_zero _)
/-- what a call's own row of items reads as -/
theorem rdI_owns {w : World} {base n : Nat} {T : TypeId} {a : Option Addr} {m cap : Nat} {J : List It} (h : w.ownsRow base T 3 (.slice a m cap) n (rowOf It.cells J)) (hv : ∀ i, i < J.length → RdV w (iAt J i).a (iAt J i).L) :
    RdI w a J ∧ n = J.length ∧ m = J.length := by
  have hn : n = J.length := by have := h.1; rw [rowOf_length It.cells_length] at this; omega
  subst hn
  rcases h.2 with ⟨h1, h0⟩ | ⟨g, cap', cur, h1, hb, hg, hnc, hcm, hsz, htake⟩
  · simp only [Value.slice.injEq] at h1
    exact ⟨fun i hi => by omega, rfl, by omega⟩
  · simp only [Value.slice.injEq] at h1
    obtain ⟨rfl, rfl, rfl⟩ := h1
    refine ⟨fun i hi => ⟨g, 0, rfl, ?_⟩, rfl, rfl⟩
    have e0 := h.cellAt (i * 3) (by omega)
    have e1 := h.cellAt (i * 3 + 1) (by omega)
    have e2 := h.cellAt (i * 3 + 2) (by omega)
    have g0 := rowOf_get It.cells_length J i 0 hi (by omega)
    have g1 := rowOf_get It.cells_length J i 1 hi (by omega)
    have g2 := rowOf_get It.cells_length J i 2 hi (by omega)
    rw [Nat.add_zero] at g0
    rw [Nat.zero_add, iAt_in hi]
    have := hv i hi
    rw [iAt_in hi] at this
    exact ⟨by rw [e0]; exact g0, by rw [e1]; exact g1, by rw [e2]; exact g2, this⟩
end Go.Proofs.Ytfgigcdfmkfkjaa
/-
  A store that came in: what its list of items reads as.
-/
namespace Go.Proofs.Ytfgigcdfmkfkjaa
open Go.ChangeShapes Go.WideShapes Go.ChangeAt Go.RowKit Go.Joins Go.Deep
set_option linter.unusedVariables false
set_option maxRecDepth 100000

/-- lengths that a machine may hold -/
def okI (x : It) : Prop := x.kd.size ≤ maxLen ∧ x.L.length ≤ maxLen ∧ ∀ v ∈ x.L, v.S.size ≤ maxLen
/-- a list of items that came in -/
def IsItems (w : World) (a : Option Addr) (len cap : Nat) (J : List It) : Prop := J.length = len ∧ len ≤ maxLen ∧ RdI w a J ∧ ∀ i, i < J.length → okI (iAt J i)

theorem item_cells {H : Type} {enc : TypeId × Value → H} {w : World} {spare : Nat → Bool} {held : Bool} {n : Nat} {cs : List Value} {x : DataW H × List MemPlace}
    (h : DataW.trod enc Try.prog w 0 spare held n 154 cs = some x) :
    ∃ y : It, cs = y.cells ∧ RdV w y.a y.L ∧ okI y := by
  obtain ⟨y0, y1, m, -, hl, h0, h1⟩ := trod_struct2 Try.underlying154 h
  have hc : Try.prog.cellsOf 154 = 3 := by kernel_rfl
  have hi : Try.prog.cellsOf 3 = 1 := by kernel_rfl
  have hf : Try.prog.cellsOf 152 = 2 := by kernel_rfl
  have hs : Try.prog.cellsOf 9 = 1 := by kernel_rfl
  have hv : Try.prog.cellsOf 150 = 1 := by kernel_rfl
  rw [hc] at hl
  match cs, hl with
  | [c0, c1, c2], _ =>
    simp only [hi, hf, List.drop_zero, List.drop_succ_cons, List.take_succ_cons, List.take_zero] at h0 h1
    obtain ⟨K, eK, _, _⟩ := DataW.trod_int Try.underlying3 h0
    obtain ⟨z0, z1, m', -, -, g0, g1⟩ := trod_struct2 Try.underlying152 h1
    simp only [hs, hv, List.drop_zero, List.drop_succ_cons, List.take_succ_cons, List.take_zero] at g0 g1
    obtain ⟨S, eS, _, wS⟩ := DataW.trod_string Try.underlying9 g0
    obtain ⟨a, len, cap, L, e2, hlen, hm, hr, hsz⟩ := vals_in g1
    simp only [List.cons.injEq, and_true] at eK eS
    exact ⟨⟨K, S, a, cap, L⟩, by rw [eK, eS, e2, ← hlen]; rfl, hr, wS, by rw [hlen]; exact hm, hsz⟩

theorem items_in {H : Type} {enc : TypeId × Value → H} {w : World} {spare : Nat → Bool} {held : Bool} {n : Nat} {v : Value} {x : DataW H × List MemPlace}
    (h : DataW.trod enc Try.prog w 0 spare held n 38 [v] = some x) : ∃ a len cap J, v = .slice a len cap ∧ IsItems w a len cap J := by
  have hc : Try.prog.cellsOf 154 = 3 := by kernel_rfl
  rcases open_slice Try.underlying38 h with ⟨h0, _⟩ | ⟨a, len, cap, m, n', D, Pl, h0, hb, hl, hm, hmm, _, hx⟩
  · simp only [List.cons.injEq, and_true] at h0
    exact ⟨none, 0, 0, [], h0, rfl, Nat.zero_le _, RdI.nil _ _, fun v hv => absurd hv (Nat.not_lt_zero _)⟩
  · simp only [List.cons.injEq, and_true] at h0
    have hlm : len ≤ m := by rw [hmm]; split <;> omega
    obtain ⟨F, hF⟩ := choose_lt (α := It) (n := len) (p := fun i y => w.cells? 0 (a.add (i * 3)) 3 = some y.cells ∧ RdV w y.a y.L ∧ okI y) (fun i hi => by
      obtain ⟨cs', h1, h2⟩ := hx i (by omega)
      rw [hc] at h1
      obtain ⟨y, rfl, hr, ho⟩ := item_cells h2
      exact ⟨y, h1, hr, ho⟩)
    have hat : ∀ i, i < len → iAt ((List.range len).map F) i = F i := fun i hi => by rw [iAt_in (by simpa using hi)]; simp
    refine ⟨some a, len, cap, (List.range len).map F, h0, by simp, Nat.le_trans hl hm, fun i hi => ?_, fun i hi => ?_⟩
    · have hi2 : i < len := by simpa using hi
      obtain ⟨_, _, hcell⟩ := World.cells?_some (hF i hi2).1
      obtain ⟨b, off, spot⟩ := a
      have e0 := hcell 0 (by omega)
      have e1 := hcell 1 (by omega)
      have e2 := hcell 2 (by omega)
      rw [add_add] at e0 e1 e2
      have hs : spot = none := by
        obtain ⟨_, _, hcell0⟩ := World.cells?_some (hF 0 (by omega)).1
        have e := hcell0 0 (by omega)
        rw [add_add] at e
        simp only [It.cells, List.getElem?_cons_zero] at e
        simpa [Addr.add] using World.cell?_spot e
      subst hs
      rw [hat i hi2]
      simp only [Addr.add_lit] at e0 e1 e2
      refine ⟨b, off, rfl, ?_, ?_, ?_, (hF i hi2).2.1⟩
      · simpa [It.cells] using e0
      · simpa [It.cells, Nat.add_assoc] using e1
      · simpa [It.cells, Nat.add_assoc] using e2
    · have hi2 : i < len := by simpa using hi
      rw [hat i hi2]; exact (hF i hi2).2.2
end Go.Proofs.Ytfgigcdfmkfkjaa
/-
  The contracts of the laws' own helpers on facts: toFact copies, eqFact finds a fact the same as itself.
-/
namespace Go.Proofs.Ytfgigcdfmkfkjaa
open Go.RowKit
set_option linter.unusedVariables false

set_option maxRecDepth 100000 in
set_option maxHeartbeats 1600000 in
theorem toFact_any (kd : ByteArray) (a : Option Addr) (cap : Nat) (L : List V3) (w : World) (hr : RdV w a L) (hn : L.length ≤ 1048576) :
    Calls Try.prog 129 #[.agg #[.string kd, .slice a L.length cap]] w fun e w' =>
      ∃ g, e = .returned (.agg #[.string kd, .slice (some ⟨g, 0, none⟩) L.length L.length]) ∧ w.heap.size ≤ g ∧ OwnV w' g L.length L ∧ Below w.heap.size w w' := by
  go_enter Try.func129, Try.ntmps129
  go_wp2_with fail
  have b0 := below_al w (.cells #[.string kd, .slice a L.length cap] 152)
  have b1 := b0.alloc b0.size (.cells #[.string ⟨#[]⟩, .slice none 0 0] 89)
  have b2 := b1.alloc b1.size (.cells #[.string kd, .slice none 0 0] 89)
  have hR := box_old (box2_new (w.alloc (.cells #[.string kd, .slice a L.length cap] 152)) (.string ⟨#[]⟩) (.slice none 0 0) 89) (by simp) (.cells #[.string kd, .slice none 0 0] 89)
  have hX := box2_new ((w.alloc (.cells #[.string kd, .slice a L.length cap] 152)).alloc (.cells #[.string ⟨#[]⟩, .slice none 0 0] 89)) (.string kd) (.slice none 0 0) 89
  simp only [World.size_alloc] at hR hX
  refine (toValS_at a cap L _ (hr.below b2) hn).mono ?_
  rintro e w1 ⟨rfl, ho, hb⟩
  have HR := hide (box_below hR hb (by simp))
  have HX := hide (box_below hX hb (by simp))
  have hB : Below w.heap.size w w1 := b2.trans (hb.mono b2.size)
  have hO := OwnV.of ho
  clear ho hb hR hX b0 b1 b2
  simp only [World.size_alloc] at hO ⊢
  obtain ⟨x0, x1, xf0, xf1⟩ := box2_cell HX.out
  obtain ⟨r0, r1, rf0, rf1⟩ := box2_cell HR.out
  have HX2 := hide (box2_set1 HX.out (.slice (some ⟨w.heap.size + 1 + 1 + 1, 0, none⟩) L.length L.length))
  have HR2 := hide (box_gr HR.out HX2.out.2 (by omega))
  go_wp2
  refine box2_post HR2.out (fun w4 h4 gr => ?_)
  clear x0 x1 xf0 xf1 r0 r1 rf0 rf1
  obtain ⟨c0, c1, -, -⟩ := box2_cell h4
  have hz := hO.lt
  exact bodyPost_ret (v := .agg #[.string kd, .slice (some ⟨w.heap.size + 1 + 1 + 1, 0, none⟩) L.length L.length]) (by simp [results, Try.results129, go_sem, c0, c1]) rfl
    ⟨_, rfl, by omega, (hO.grown HX2.out.2 (by omega)).grown gr (by omega), below_set (hB.grown HX2.out.2 hB.size (fun k hk => by cases hk; omega)) gr (by omega)⟩

set_option maxRecDepth 100000 in
set_option maxHeartbeats 1600000 in
theorem eqFact_same (kd : ByteArray) (a b : Option Addr) (ca cb : Nat) (L : List V3) (w : World) (hr : RdV w a L) (hq : RdV w b L) (hn : L.length ≤ 1048580) :
    Calls Try.prog 138 #[.agg #[.string kd, .slice a L.length ca], .agg #[.string kd, .slice b L.length cb]] w fun e w' =>
      e = .returned (.bool true) ∧ Below w.heap.size w w' := by
  have k1 : (kd.toList == kd.toList) = true := by simp
  go_enter Try.func138, Try.ntmps138
  go_wp2_with fail
  have b0 := below_al w (.cells #[.string kd, .slice a L.length ca] 89)
  have b1 := b0.alloc b0.size (.cells #[.string kd, .slice b L.length cb] 89)
  refine (eqValS_same a b ca cb L _ (hr.below b1) (hq.below b1) hn).mono ?_
  rintro e w1 ⟨rfl, hb⟩
  have hB : Below w.heap.size w w1 := b1.trans (hb.mono b1.size)
  go_wp2
  go_ret
  exact ⟨rfl, hB⟩
end Go.Proofs.Ytfgigcdfmkfkjaa
/-
  The contracts of the laws' own helpers on items and stores: how great they are, their copies, and that one is the same as itself.
-/
namespace Go.Proofs.Ytfgigcdfmkfkjaa
open Go.RowKit
set_option linter.unusedVariables false

def szI (x : It) : Nat := x.kd.size + szL x.L
def szJ (J : List It) (k : Nat) : Nat := ((J.take k).map szI).sum
theorem szJ_step {J : List It} {k : Nat} (h : k < J.length) : szJ J (k + 1) = szJ J k + szI (iAt J k) := by
  unfold szJ; rw [List.take_succ_eq_append_getElem h, iAt_in h, List.map_append, List.sum_append]; simp only [List.map_cons, List.map_nil, List.sum_cons, List.sum_nil, Nat.add_zero]
def szSt (J : List It) : Nat := J.length + (J.map szI).sum
theorem szJ_end (J : List It) : szJ J J.length = (J.map szI).sum := by unfold szJ; rw [List.take_length]
theorem szSt_mem {J : List It} {i : Nat} (hi : i < J.length) : szI (iAt J i) + J.length ≤ szSt J := by
  unfold szSt
  have : szI (iAt J i) ≤ (J.map szI).sum := mem_sum (List.mem_map.2 ⟨_, by rw [iAt_in hi]; exact List.getElem_mem hi, rfl⟩)
  omega

set_option maxRecDepth 100000 in
set_option maxHeartbeats 1600000 in
theorem szItem_any (id : Int) (kd : ByteArray) (a : Option Addr) (cap : Nat) (L : List V3) (left : Int) (w : World) (hkd : kd.size ≤ maxLen) (hr : RdV w a L) (hs : ∀ v ∈ L, v.S.size ≤ maxLen) (hm : L.length ≤ maxLen) (h0 : 0 ≤ left) (h1 : left ≤ 1048576) :
    Calls Try.prog 91 #[.agg #[.int .i64 id, .string kd, .slice a L.length cap], .int .i64 left] w fun e w' =>
      (∃ r, e = .returned (.int .i64 r) ∧ (r = -1 ∨ (0 ≤ r ∧ r + ((kd.size + szL L : Nat) : Int) = left))) ∧ Below w.heap.size w w' := by
  have b0 := below_al w (.cells #[.int .i64 id, .string kd, .slice a L.length cap] 154)
  go_enter Try.func91, Try.ntmps91
  go_wp2_with fail
  refine (szFact_any kd a cap L left _ hkd (hr.below b0) hs hm h0 h1).mono ?_
  rintro e w1 ⟨⟨r, rfl, hr1⟩, hb1⟩
  have hB1 : Below w.heap.size w w1 := b0.trans (hb1.mono b0.size)
  clear hb1 b0
  rcases hr1 with rfl | ⟨hr2, hr3⟩
  · go_wp2
    go_ret
    exact ⟨⟨-1, rfl, .inl rfl⟩, hB1⟩
  · have HR := hide hr3
    have h2 : ¬ (r < 0) := by omega
    clear hr3
    go_wp2
    go_ret
    exact ⟨⟨r, rfl, .inr ⟨hr2, HR.out⟩⟩, hB1⟩

set_option maxRecDepth 100000 in
set_option maxHeartbeats 1600000 in
theorem szItemS_any (a : Option Addr) (cap : Nat) (J : List It) (left : Int) (w : World) (hr : RdI w a J) (hs : ∀ i, i < J.length → okI (iAt J i)) (hm : J.length ≤ maxLen) (h0 : 0 ≤ left) (h1 : left ≤ 1048576) :
    Calls Try.prog 52 #[.slice a J.length cap, .int .i64 left] w fun e w' =>
      (∃ r, e = .returned (.int .i64 r) ∧ (r = -1 ∨ (0 ≤ r ∧ r + (szSt J : Int) = left))) ∧ Below w.heap.size w w' := by
  unfold maxLen at hm
  obtain ⟨n, hN⟩ : ∃ n, n = J.length := ⟨_, rfl⟩
  rw [← hN] at hm ⊢
  have HN := hide hN
  have HS := hide hs
  clear hN hs
  by_cases h2 : left - (n : Int) < 0
  · go_enter Try.func52, Try.ntmps52
    go_wp2
    go_ret
    exact ⟨⟨-1, rfl, .inl rfl⟩, Below.refl _ _⟩
  · go_enter Try.func52, Try.ntmps52
    go_wp2
    go_loopw [1, 5] (fun l i wr => ∃ (k : Nat) (lf : Int), k ≤ n ∧ i = .int .i64 k ∧ l = .int .i64 lf ∧ 0 ≤ lf ∧ lf + (szJ J k : Int) = left - n ∧ Below w.heap.size w wr) (fun _ i _ => n - (intOf i).toNat)
    case atStart => exact ⟨0, left - n, Nat.zero_le _, rfl, rfl, by omega, by simp [szJ], Below.refl _ _⟩
    case round =>
      obtain ⟨k, lf, hk, rfl, rfl, hlf, hsum, hbel⟩ := hrel
      by_cases hlt : k < n
      · obtain ⟨b, off, hab, hbw, hc⟩ := hr.open (by rw [← HN.out]; omega)
        obtain ⟨c0, c1, c2, hv⟩ := hc k (by rw [← HN.out]; exact hlt)
        have HV := hide (hv.below (hbel.mono (Nat.le_refl _)))
        clear hc hv
        subst hab
        rw [← hbel.cell (p := ⟨b, off + k * 3, none⟩) hbw] at c0
        rw [← hbel.cell (p := ⟨b, off + k * 3 + 1, none⟩) hbw] at c1
        rw [← hbel.cell (p := ⟨b, off + k * 3 + 2, none⟩) hbw] at c2
        have HK := hide (HS.out k (by rw [← HN.out]; exact hlt))
        have hst := szJ_step (J := J) (k := k) (by rw [← HN.out]; exact hlt)
        unfold szI at hst
        generalize iAt J k = x at c0 c1 c2 HV HK hst
        obtain ⟨id, kd, va, vc, L⟩ := x
        simp only at c0 c1 c2 HV HK hst
        go_wp2_with fail
        refine (szItem_any id kd va vc L lf _ HK.out.1 HV.out HK.out.2.2 HK.out.2.1 hlf (by omega)).mono ?_
        rintro e w2 ⟨⟨r, rfl, hr1⟩, hb2⟩
        have hbel2 : Below w.heap.size w w2 := hbel.trans (hb2.mono hbel.size)
        clear hb2 c0 c1 c2 hbel
        rcases hr1 with rfl | ⟨hr2, hr3⟩
        · go_wp2
          go_ret
          exact ⟨⟨-1, rfl, .inl rfl⟩, hbel2⟩
        · have HR : Hid (r + (szJ J (k + 1) : Int) = left - n) := by unfold Hid; rw [hst]; omega
          have h3 : ¬ (r < 0) := by omega
          clear hr3 hst hsum
          go_wp2
          go_roundw
          case rel => exact ⟨k + 1, r, by omega, by go_num, rfl, hr2, HR.out, hbel2⟩
          case measure => simp [intOf]; omega
      · have HK : Hid (lf + (szSt J : Int) = left) := by
          unfold Hid szSt
          have := szJ_end J
          have hkn : k = J.length := by rw [← HN.out]; omega
          rw [hkn] at hsum
          have := HN.out
          omega
        clear hsum
        go_wp2
        go_ret
        exact ⟨⟨lf, rfl, .inr ⟨hlf, HK.out⟩⟩, hbel⟩

set_option maxRecDepth 100000 in
set_option maxHeartbeats 1600000 in
theorem szStore_any (a : Option Addr) (cap : Nat) (J : List It) (nx : Int) (left : Int) (w : World) (hr : RdI w a J) (hs : ∀ i, i < J.length → okI (iAt J i)) (hm : J.length ≤ maxLen) (h0 : 0 ≤ left) (h1 : left ≤ 1048576) :
    Calls Try.prog 17 #[.agg #[.slice a J.length cap, .int .i64 nx], .int .i64 left] w fun e w' =>
      (∃ r, e = .returned (.int .i64 r) ∧ (r = -1 ∨ (0 ≤ r ∧ r + (szSt J : Int) = left))) ∧ Below w.heap.size w w' := by
  have b0 := below_al w (.cells #[.slice a J.length cap, .int .i64 nx] 40)
  go_enter Try.func17, Try.ntmps17
  go_wp2_with fail
  refine (szItemS_any a cap J left _ (hr.below b0) hs hm h0 h1).mono ?_
  rintro e w1 ⟨⟨r, rfl, hr1⟩, hb1⟩
  have hB1 : Below w.heap.size w w1 := b0.trans (hb1.mono b0.size)
  clear hb1 b0
  rcases hr1 with rfl | ⟨hr2, hr3⟩
  · go_wp2
    go_ret
    exact ⟨⟨-1, rfl, .inl rfl⟩, hB1⟩
  · have HR := hide hr3
    have h2 : ¬ (r < 0) := by omega
    clear hr3
    go_wp2
    go_ret
    exact ⟨⟨r, rfl, .inr ⟨hr2, HR.out⟩⟩, hB1⟩

end Go.Proofs.Ytfgigcdfmkfkjaa
/-
  The contracts of the laws' own copies of items and stores: what is copied lies in blocks of its own, no two lists in one.
-/
namespace Go.Proofs.Ytfgigcdfmkfkjaa
open Go.RowKit
set_option linter.unusedVariables false

theorem box_set12 {w : World} {q : Nat} {c0 c1 c2 : Value} {T : TypeId} (h : w.heap[q]? = some (.cells #[c0, c1, c2] T (0, 0))) (b c : Value) :
    ((w.setCell ⟨q, 1, none⟩ b).setCell ⟨q, 2, none⟩ c).heap[q]? = some (.cells #[c0, b, c] T (0, 0)) ∧ w.grownBy ((w.setCell ⟨q, 1, none⟩ b).setCell ⟨q, 2, none⟩ c) (some q) := by
  have h2 : (w.setCell ⟨q, 1, none⟩ b).heap[q]? = some (.cells #[c0, b, c2] T (0, 0)) := by rw [heap_setCell_same w q 1 _ T b h]; rfl
  refine ⟨by rw [heap_setCell_same _ q 2 _ T c h2]; rfl, ⟨rfl, rfl, rfl, by simp [World.setCell], fun k _ hk => ?_⟩⟩
  rw [heap_setCell_other _ ⟨q, 2, none⟩ k c (fun e => hk (by simp [e])), heap_setCell_other w ⟨q, 1, none⟩ k b (fun e => hk (by simp [e]))]

set_option maxRecDepth 100000 in
set_option maxHeartbeats 1600000 in
theorem toItem_any (id : Int) (kd : ByteArray) (a : Option Addr) (cap : Nat) (L : List V3) (w : World) (hr : RdV w a L) (hn : L.length ≤ 1048576) :
    Calls Try.prog 97 #[.agg #[.int .i64 id, .string kd, .slice a L.length cap]] w fun e w' =>
      ∃ g, e = .returned (.agg #[.int .i64 id, .string kd, .slice (some ⟨g, 0, none⟩) L.length L.length]) ∧ w.heap.size ≤ g ∧ OwnV w' g L.length L ∧ Below w.heap.size w w' := by
  go_enter Try.func97, Try.ntmps97
  go_wp2_with fail
  have b0 := below_al w (.cells #[.int .i64 id, .string kd, .slice a L.length cap] 154)
  have b1 := b0.alloc b0.size (.cells #[.int .i64 0, .string ⟨#[]⟩, .slice none 0 0] 122)
  have b2 := b1.alloc b1.size (.cells #[.int .i64 id, .string ⟨#[]⟩, .slice none 0 0] 122)
  have hR := box_old (box_new (w.alloc (.cells #[.int .i64 id, .string kd, .slice a L.length cap] 154)) (.int .i64 0) (.string ⟨#[]⟩) (.slice none 0 0) 122) (by simp) (.cells #[.int .i64 id, .string ⟨#[]⟩, .slice none 0 0] 122)
  have hX := box_new ((w.alloc (.cells #[.int .i64 id, .string kd, .slice a L.length cap] 154)).alloc (.cells #[.int .i64 0, .string ⟨#[]⟩, .slice none 0 0] 122)) (.int .i64 id) (.string ⟨#[]⟩) (.slice none 0 0) 122
  simp only [World.size_alloc] at hR hX
  refine (toFact_any kd a cap L _ (hr.below b2) hn).mono ?_
  rintro e w1 ⟨g, rfl, hg, hO, hb⟩
  have HR := hide (box_below hR hb (by simp))
  have HX := hide (box_below hX hb (by simp))
  have hB : Below w.heap.size w w1 := b2.trans (hb.mono b2.size)
  clear hb hR hX b0 b1 b2
  simp only [World.size_alloc] at hg
  obtain ⟨x0, x1, x2, xf0, xf1, xf2⟩ := box_cell HX.out
  obtain ⟨r0, r1, r2, rf0, rf1, rf2⟩ := box_cell HR.out
  have HX2 := hide (box_set12 HX.out (.string kd) (.slice (some ⟨g, 0, none⟩) L.length L.length))
  have HR2 := hide (box_gr HR.out HX2.out.2 (by omega))
  go_wp2
  refine box_post HR2.out (fun w4 h4 gr => ?_)
  clear x0 x1 x2 xf0 xf1 xf2 r0 r1 r2 rf0 rf1 rf2
  obtain ⟨c0, c1, c2, -, -, -⟩ := box_cell h4
  have hz := hO.lt
  exact bodyPost_ret (v := .agg #[.int .i64 id, .string kd, .slice (some ⟨g, 0, none⟩) L.length L.length]) (by simp [results, Try.results97, go_sem, c0, c1, c2]) rfl
    ⟨_, rfl, by omega, (hO.grown HX2.out.2 (by omega)).grown gr (by omega), below_set (hB.grown HX2.out.2 hB.size (fun k hk => by cases hk; omega)) gr (by omega)⟩

/-- a list of values in memory, or none -/
def LieV (a : Option Addr) (n cap : Nat) : Prop := (a = none ∧ n = 0 ∧ cap = 0) ∨ ∃ b off, a = some ⟨b, off, none⟩ ∧ n ≤ cap ∧ cap ≤ maxLen
theorem OwnV.lies {w : World} {g cap : Nat} {L : List V3} (h : OwnV w g cap L) : LieV (some ⟨g, 0, none⟩) L.length cap := by
  refine .inr ⟨g, 0, rfl, h.cap, ?_⟩
  rcases h.2 with ⟨h1, _⟩ | ⟨g', cap', cur, h1, hb', hh, hnc, hcm, _⟩
  · simp at h1
  · simp only [Value.slice.injEq] at h1
    omega
theorem LieV.nil : LieV none 0 0 := .inl ⟨rfl, rfl, rfl⟩
/-- block g holds the items K, at its head; the values of each item that has any lie in a block of their own -/
structure HoldsI (w : World) (lo g cp : Nat) (K : List It) : Prop where
  own : w.ownsRow 0 122 3 (.slice (some ⟨g, 0, none⟩) K.length cp) K.length (rowOf It.cells K)
  low : lo ≤ g
  vals : ∀ i, i < K.length → (iAt K i).L ≠ [] → ∃ q, (iAt K i).a = some ⟨q, 0, none⟩ ∧ lo ≤ q ∧ q ≠ g ∧ OwnV w q (iAt K i).cap (iAt K i).L
  apart : ∀ i j, i < j → j < K.length → (iAt K i).L ≠ [] → (iAt K j).L ≠ [] → (iAt K i).a ≠ (iAt K j).a
  lies : ∀ i, i < K.length → LieV (iAt K i).a (iAt K i).L.length (iAt K i).cap
theorem HoldsI.rd {w : World} {lo g cp : Nat} {K : List It} (h : HoldsI w lo g cp K) : RdI w (some ⟨g, 0, none⟩) K :=
  (rdI_owns h.own (fun i hi => by
    by_cases e : (iAt K i).L = []
    · rw [e]; exact RdV.nil _ _
    · obtain ⟨q, e, -, -, o⟩ := h.vals i hi e; rw [e]; exact o.rd)).1
theorem HoldsI.later {w w' : World} {lo g cp : Nat} {K : List It} (h : HoldsI w lo g cp K) (hb : Below w.heap.size w w') : HoldsI w' lo g cp K :=
  ⟨ownsRow_below h.own hb, h.low, fun i hi hne => by obtain ⟨q, e, h1, h2, o⟩ := h.vals i hi hne; exact ⟨q, e, h1, h2, o.later hb⟩, h.apart, h.lies⟩
theorem HoldsI.lt {w : World} {lo g cp : Nat} {K : List It} (h : HoldsI w lo g cp K) : g < w.heap.size := (World.ownsRow.lt h.own g rfl).2
theorem HoldsI.grown {w w' : World} {lo g cp q : Nat} {K : List It} (h : HoldsI w lo g cp K) (hg : w.grownBy w' (some q)) (hlo : q < lo) : HoldsI w' lo g cp K := by
  refine ⟨World.ownsRow.kept h.own hg (.inr ?_), h.low, fun i hi hne => ?_, h.apart, h.lies⟩
  · have := h.low
    simp [Value.ownBlock]; omega
  · obtain ⟨p, e, h1, h2, o⟩ := h.vals i hi hne
    exact ⟨p, e, h1, h2, o.grown hg (by omega)⟩
theorem HoldsI.weaken {w : World} {lo lo' g cp : Nat} {K : List It} (h : HoldsI w lo g cp K) (hl : lo' ≤ lo) : HoldsI w lo' g cp K :=
  ⟨h.own, Nat.le_trans hl h.low, fun i hi hne => by obtain ⟨p, e, h1, h2, o⟩ := h.vals i hi hne; exact ⟨p, e, Nat.le_trans hl h1, h2, o⟩, h.apart, h.lies⟩
theorem grown_tr {a b c : World} {row : Option Nat} (h : a.grownBy b row) (k : b.grownBy c row) : a.grownBy c row :=
  ⟨k.os.trans h.os, k.tape.trans h.tape, k.output.trans h.output, Nat.le_trans h.size k.size, fun i hi hne => (k.block i (Nat.lt_of_lt_of_le hi h.size) hne).trans (h.block i hi hne)⟩

/-- the first k items are copied -/
def Copied (w : World) (lo g : Nat) (J K : List It) (k : Nat) : Prop :=
  (∀ i, i < k → (iAt K i).pl = (iAt J i).pl ∧ ((iAt K i).L ≠ [] → ∃ q, (iAt K i).a = some ⟨q, 0, none⟩ ∧ lo ≤ q ∧ q ≠ g ∧ OwnV w q (iAt K i).cap (iAt K i).L) ∧ LieV (iAt K i).a (iAt K i).L.length (iAt K i).cap) ∧ ∀ i j, i < j → j < k → (iAt K i).L ≠ [] → (iAt K j).L ≠ [] → (iAt K i).a ≠ (iAt K j).a
theorem Copied.zero (w : World) (lo g : Nat) (J K : List It) : Copied w lo g J K 0 := ⟨fun i hi => absurd hi (Nat.not_lt_zero _), fun i j _ hj => absurd hj (Nat.not_lt_zero _)⟩
/-- one item more: its values are none, or lie in a block that is new -/
theorem Copied.more {w w1 w2 : World} {lo g : Nat} {J K K' : List It} {k : Nat} {x : It} (h : Copied w lo g J K k) (hb : Below w.heap.size w w1) (hg : w1.grownBy w2 (some g)) (hsame : ∀ i, i < k → iAt K' i = iAt K i) (hnew : iAt K' k = x) (hx : x.pl = (iAt J k).pl)
    (hq : x.L ≠ [] → ∃ q, x.a = some ⟨q, 0, none⟩ ∧ w.heap.size ≤ q ∧ OwnV w1 q x.cap x.L) (hli : LieV x.a x.L.length x.cap) (hlo : lo ≤ w.heap.size) (hgl : g < w.heap.size) : Copied w2 lo g J K' (k + 1) := by
  refine ⟨fun i hi => ?_, fun i j hij hj => ?_⟩
  · by_cases e : i = k
    · rw [e, hnew]
      exact ⟨hx, fun hne => by obtain ⟨q, h1, h2, o⟩ := hq hne; exact ⟨q, h1, by omega, by omega, o.grown hg (by omega)⟩, hli⟩
    · rw [hsame i (by omega)]
      obtain ⟨h2, h3, h4⟩ := h.1 i (by omega)
      exact ⟨h2, fun hne => by obtain ⟨p, h5, h6, h7, h8⟩ := h3 hne; exact ⟨p, h5, h6, h7, (h8.later hb).grown hg h7⟩, h4⟩
  · rw [hsame i (by omega)]
    intro hne
    by_cases e : j = k
    · rw [e, hnew]
      intro hne2
      obtain ⟨q, h1, h2, -⟩ := hq hne2
      obtain ⟨p, h3, -, -, h6⟩ := (h.1 i (by omega)).2.1 hne
      rw [h3, h1]
      have := h6.lt
      intro he
      simp only [Option.some.injEq, Addr.mk.injEq, and_true] at he
      omega
    · rw [hsame j (by omega)]
      exact h.2 i j hij (by omega) hne
theorem Copied.step {w w1 w2 : World} {lo g : Nat} {J K : List It} {k q : Nat} {x : It} (h : Copied w lo g J K k) (hb : Below w.heap.size w w1) (hg : w1.grownBy w2 (some g)) (hk : k < K.length) (hx : x.pl = (iAt J k).pl)
    (hq : x.a = some ⟨q, 0, none⟩) (h1 : w.heap.size ≤ q) (hlo : lo ≤ w.heap.size) (hgl : g < w.heap.size) (o : OwnV w1 q x.cap x.L) : Copied w2 lo g J (K.set k x) (k + 1) :=
  h.more hb hg (fun i hi => by rw [iAt_set hk, if_neg (by omega)]) (by rw [iAt_set hk, if_pos rfl]) hx (fun _ => ⟨q, hq, h1, o⟩) (by rw [hq]; exact o.lies) hlo hgl
theorem Copied.done {w : World} {lo g cp : Nat} {J K : List It} (h : Copied w lo g J K K.length) (hl : K.length = J.length) (hlo : lo ≤ g) (o : w.ownsRow lo 122 3 (.slice (some ⟨g, 0, none⟩) K.length cp) K.length (rowOf It.cells K)) : HoldsI w lo g cp K ∧ K.map It.pl = J.map It.pl := by
  refine ⟨⟨?_, hlo, fun i hi => (h.1 i hi).2.1, h.2, fun i hi => (h.1 i hi).2.2⟩, pl_ext hl (fun i hi => (h.1 i hi).1)⟩
  refine ⟨o.1, ?_⟩
  rcases o.2 with h2 | ⟨g, cap, cur, h1, hb, rest⟩
  · exact .inl h2
  · exact .inr ⟨g, cap, cur, h1, Nat.zero_le _, rest⟩

theorem Try.info122 : (Try.prog.info? 122).map (fun i => (i.zero, i.size, i.bytes)) = some (some (.agg #[.int .i64 0, .string ⟨#[]⟩, .slice none 0 0]), 3, 48) := by kernel_rfl
theorem It.zero_cells : It.cells ⟨0, ⟨#[]⟩, none, 0, []⟩ = [.int .i64 0, .string ⟨#[]⟩, .slice none 0 0] := rfl

set_option maxRecDepth 100000 in
set_option maxHeartbeats 3200000 in
theorem toItemS_any (a : Option Addr) (cap : Nat) (J : List It) (w : World) (hr : RdI w a J) (hn : J.length ≤ 1048576) (hl : ∀ i, i < J.length → (iAt J i).L.length ≤ 1048576) :
    Calls Try.prog 58 #[.slice a J.length cap] w fun e w' =>
      ∃ K g, e = .returned (.slice (some ⟨g, 0, none⟩) J.length J.length) ∧ HoldsI w' w.heap.size g J.length K ∧ K.map It.pl = J.map It.pl ∧ Below w.heap.size w w' := by
  obtain ⟨i0, hi, hz0, hz1, hz2⟩ := info_parts Try.info122
  obtain ⟨n, hN⟩ : ∃ n, n = J.length := ⟨_, rfl⟩
  rw [← hN] at hn ⊢
  have HN := hide hN
  have HL := hide hl
  clear hN hl
  go_enter Try.func58, Try.ntmps58
  go_wp2_with (at_make; refine wpList_make_full _ rfl _ _ 51 rfl w.heap.size 122 i0 (.agg #[.int .i64 0, .string ⟨#[]⟩, .slice none 0 0]) 3 Try.underlying51 hi hz0 hz1 _ _ _ _ n rfl rfl (by omega) (by omega) ?b2 ?b3 (Nat.le_refl _) ?_)
  case b2 => rw [hz2]; omega
  case b3 => unfold maxLen; omega
  intro w0 hown0 hgrow0
  rw [rowOf_replicate It.zero_cells] at hown0
  have hs0 : w.heap.size < w0.heap.size := (hown0.lt w.heap.size rfl).2
  have hb0 : Below w.heap.size w w0 := (Below.refl _ _).grown hgrow0 (Nat.le_refl _) (fun k h => by cases h)
  go_wp2
  go_loopw [4] (fun i wr => ∃ (k : Nat) (K : List It), k ≤ n ∧ i = .int .i64 k ∧ K.length = n ∧ wr.ownsRow w.heap.size 122 3 (.slice (some ⟨w.heap.size, 0, none⟩) n n) n (rowOf It.cells K) ∧ Copied wr w.heap.size w.heap.size J K k ∧ Below w.heap.size w wr ∧ w.heap.size < wr.heap.size)
    (fun i _ => n - (intOf i).toNat)
  case atStart => exact ⟨0, List.replicate n ⟨0, ⟨#[]⟩, none, 0, []⟩, Nat.zero_le _, rfl, by simp, hown0, Copied.zero _ _ _ _ _, hb0, hs0⟩
  case round =>
    clear hown0 hgrow0 hb0 hs0
    obtain ⟨k, K, hk, rfl, hKn, hown, hcop, hbel, hsz⟩ := hrel
    have HKn := hide hKn
    have HCop := hide hcop
    clear hKn hcop
    by_cases hlt : k < n
    · obtain ⟨b, off, hab, hbw, hc⟩ := hr.open (by rw [← HN.out]; omega)
      obtain ⟨c0, c1, c2, hv⟩ := hc k (by rw [← HN.out]; exact hlt)
      have HV := hide (hv.below hbel)
      clear hc hv
      subst hab
      rw [← hbel.cell (p := ⟨b, off + k * 3, none⟩) hbw] at c0
      rw [← hbel.cell (p := ⟨b, off + k * 3 + 1, none⟩) hbw] at c1
      rw [← hbel.cell (p := ⟨b, off + k * 3 + 2, none⟩) hbw] at c2
      have HK := hide (HL.out k (by rw [← HN.out]; exact hlt))
      obtain ⟨x, hx⟩ : ∃ x, x = iAt J k := ⟨_, rfl⟩
      rw [← hx] at c0 c1 c2 HV HK
      have HX := hide hx
      clear hx
      obtain ⟨id, kd, va, vc, L⟩ := x
      simp only at c0 c1 c2 HV HK
      go_wp2_with fail
      refine (toItem_any id kd va vc L _ HV.out HK.out).mono ?_
      rintro e w2 ⟨g, rfl, hg, o, hb2⟩
      have hown2 : w2.ownsRow w.heap.size 122 3 (.slice (some ⟨w.heap.size, 0, none⟩) n n) n (rowOf It.cells K) := ownsRow_below hown hb2
      have hbel2 : Below w.heap.size w w2 := hbel.trans (hb2.mono hbel.size)
      have hlen : (rowOf It.cells K).length = n * 3 := by rw [rowOf_length It.cells_length, HKn.out]
      have hmem : ∀ j, j < 3 → ∃ u, w2.cell? ⟨w.heap.size, k * 3 + j, none⟩ = some u := fun j hj => by
        rw [hown2.cellAt (k * 3 + j) (by omega), List.getElem?_eq_getElem (by omega)]
        exact ⟨_, rfl⟩
      obtain ⟨u0, m0⟩ := hmem 0 (by omega)
      obtain ⟨u1, m1⟩ := hmem 1 (by omega)
      obtain ⟨u2, m2⟩ := hmem 2 (by omega)
      rw [Nat.add_zero] at m0
      have f0 := hown2.frozenAt (k * 3)
      have f1 := hown2.frozenAt (k * 3 + 1)
      have f2 := hown2.frozenAt (k * 3 + 2)
      have s1 := hown2.stored (k * 3) (.int .i64 id)
      have s2 := s1.1.stored (k * 3 + 1) (.string kd)
      have s3 := s2.1.stored (k * 3 + 2) (.slice (some ⟨g, 0, none⟩) L.length L.length)
      have HO := hide s3.1
      have hset := rowOf_set3 It.cells_length ⟨id, kd, some ⟨g, 0, none⟩, L.length, L⟩ (.int .i64 id) (.string kd) (.slice (some ⟨g, 0, none⟩) L.length L.length) rfl K k (by rw [HKn.out]; exact hlt)
      rw [hset] at HO
      have HC := hide (HCop.out.step (x := ⟨id, kd, some ⟨g, 0, none⟩, L.length, L⟩) hb2 (grown_tr (grown_tr s1.2 s2.2) s3.2) (by rw [HKn.out]; exact hlt) (by rw [← HX.out]; rfl) rfl hg (Nat.le_of_lt hsz) hsz o)
      have HB : Hid (Below w.heap.size w (((w2.setCell ⟨w.heap.size, k * 3, none⟩ (.int .i64 id)).setCell ⟨w.heap.size, k * 3 + 1, none⟩ (.string kd)).setCell ⟨w.heap.size, k * 3 + 2, none⟩ (.slice (some ⟨g, 0, none⟩) L.length L.length))) := ((hbel2.setCell (Nat.le_refl _) _).setCell (Nat.le_refl _) _).setCell (Nat.le_refl _) _
      have HZ : Hid (w.heap.size < (((w2.setCell ⟨w.heap.size, k * 3, none⟩ (.int .i64 id)).setCell ⟨w.heap.size, k * 3 + 1, none⟩ (.string kd)).setCell ⟨w.heap.size, k * 3 + 2, none⟩ (.slice (some ⟨g, 0, none⟩) L.length L.length)).heap.size) := by
        have h1 := hb2.size
        have h2 := (grown_tr (grown_tr s1.2 s2.2) s3.2).size
        exact Nat.lt_of_lt_of_le (Nat.lt_of_lt_of_le hsz h1) h2
      have HLen : Hid ((K.set k ⟨id, kd, some ⟨g, 0, none⟩, L.length, L⟩).length = n) := by unfold Hid; rw [List.length_set, HKn.out]
      clear hmem hlen c0 c1 c2 hown hbel hb2 s1 s2 s3 hset hown2 hbel2 o HV HK HCop
      go_wp2
      go_roundw
      case rel => exact ⟨k + 1, _, by omega, by go_num, HLen.out, HO.out, HC.out, HB.out, HZ.out⟩
      case measure => simp [intOf]; omega
    · have hkn : k = K.length := by rw [HKn.out]; omega
      have HR : Hid (HoldsI wr w.heap.size w.heap.size n K ∧ K.map It.pl = J.map It.pl) := by
        refine Copied.done (hkn ▸ HCop.out) (by rw [HKn.out, HN.out]) (Nat.le_refl _) ?_
        rw [HKn.out]; exact hown
      clear hkn hown
      go_wp2
      go_ret
      exact ⟨K, _, rfl, HR.out.1, HR.out.2, hbel⟩

set_option maxRecDepth 100000 in
set_option maxHeartbeats 1600000 in
theorem toStore_any (a : Option Addr) (cap : Nat) (J : List It) (nx : Int) (w : World) (hr : RdI w a J) (hn : J.length ≤ 1048576) (hl : ∀ i, i < J.length → (iAt J i).L.length ≤ 1048576) :
    Calls Try.prog 20 #[.agg #[.slice a J.length cap, .int .i64 nx]] w fun e w' =>
      ∃ K g, e = .returned (.agg #[.slice (some ⟨g, 0, none⟩) J.length J.length, .int .i64 nx]) ∧ HoldsI w' w.heap.size g J.length K ∧ K.map It.pl = J.map It.pl ∧ Below w.heap.size w w' := by
  go_enter Try.func20, Try.ntmps20
  go_wp2_with fail
  have b0 := below_al w (.cells #[.slice a J.length cap, .int .i64 nx] 40)
  have b1 := b0.alloc b0.size (.cells #[.slice none 0 0, .int .i64 0] 53)
  have b2 := b1.alloc b1.size (.cells #[.slice none 0 0, .int .i64 0] 53)
  have hA := box_old (box_old (box2_new w (.slice a J.length cap) (.int .i64 nx) 40) (by simp) (.cells #[.slice none 0 0, .int .i64 0] 53)) (by simp; omega) (.cells #[.slice none 0 0, .int .i64 0] 53)
  have hR := box_old (box2_new (w.alloc (.cells #[.slice a J.length cap, .int .i64 nx] 40)) (.slice none 0 0) (.int .i64 0) 53) (by simp) (.cells #[.slice none 0 0, .int .i64 0] 53)
  have hX := box2_new ((w.alloc (.cells #[.slice a J.length cap, .int .i64 nx] 40)).alloc (.cells #[.slice none 0 0, .int .i64 0] 53)) (.slice none 0 0) (.int .i64 0) 53
  simp only [World.size_alloc] at hA hR hX
  refine (toItemS_any a cap J _ (hr.below b2) hn hl).mono ?_
  rintro e w1 ⟨K, g, rfl, hH, hpl, hb⟩
  have HA := hide (box_below hA hb (by simp; omega))
  have HR := hide (box_below hR hb (by simp))
  have HX := hide (box_below hX hb (by simp))
  have hB : Below w.heap.size w w1 := b2.trans (hb.mono b2.size)
  have hz : w.heap.size + 1 + 1 + 1 ≤ g := by have := hH.low; simp only [World.size_alloc] at this; exact this
  have HP := hide hpl
  have HH := hide hH
  clear hb hA hR hX b0 b1 b2 hpl hH
  obtain ⟨x0, x1, xf0, xf1⟩ := box2_cell HX.out
  obtain ⟨r0, r1, rf0, rf1⟩ := box2_cell HR.out
  obtain ⟨a0, a1, -, -⟩ := box2_cell HA.out
  have HX2 := hide (box2_set HX.out (.slice (some ⟨g, 0, none⟩) J.length J.length) (.int .i64 nx))
  have HR2 := hide (box_gr HR.out HX2.out.2 (by omega))
  go_wp2
  refine box2_post HR2.out (fun w4 h4 gr => ?_)
  clear x0 x1 xf0 xf1 r0 r1 rf0 rf1 a0 a1
  obtain ⟨c0, c1, -, -⟩ := box2_cell h4
  refine bodyPost_ret (v := .agg #[.slice (some ⟨g, 0, none⟩) J.length J.length, .int .i64 nx]) (by simp [results, Try.results20, go_sem, c0, c1]) rfl
    ⟨K, g, rfl, ?_, HP.out, below_set (hB.grown HX2.out.2 hB.size (fun k hk => by cases hk; omega)) gr (by omega)⟩
  have h1 := HH.out.grown HX2.out.2 (by simp)
  have h2 := h1.grown gr (by simp)
  exact h2.weaken (by simp; omega)
end Go.Proofs.Ytfgigcdfmkfkjaa
/-
  Copies of a fact: the model's and the tested one: the same values, in a row of the call's own.
-/
namespace Go.Proofs.Ytfgigcdfmkfkjaa
open Go.RowKit
set_option linter.unusedVariables false

theorem src_zero {P : Program} {w : World} {size : Nat} {t e : TypeId} (hk : P.underlying t = some (.slice e)) (ad : Option Addr) (c : Nat) : Src P size t (.slice ad 0 c) 0 [] w := by
  cases ad with
  | none => exact Src.ofNil w hk c
  | some a => exact Src.ofSlice w hk a 0 c [] (by simp) (fun j u h => by simp at h) (fun _ h => by cases h)
theorem wpList_append_zero {P : Program} {w : World} {ops : Array Oper} {rest : List Oper} {o : Oper} {a : Act} {Q : Exit → Act → World → Prop} (hgd : o.guard = none) (s x : Operand) (t : TypeId)
    (ho : o.op = .call { callee := .builtin .append, args := #[s, x], argTypes := #[t, t] }) (e : TypeId) (i : TypeInfo) (ht : P.underlying t = some (.slice e)) (hi : P.info? e = some i)
    (b : Option Addr) (n cap : Nat) (hs : a.eval s = .slice b n cap) (hle : n ≤ cap) (ad : Option Addr) (c : Nat) (hx : a.eval x = .slice ad 0 c)
    (h : wpList P ops Q rest (a.put o.dst (.slice b n cap)) w) : wpList P ops Q (o :: rest) a w := by
  refine wpList_plain hgd fun K hK => ?_
  have hrun := run_append_nothing w t t o.type e i ht hi b n cap hle (.slice ad 0 c) (src_zero ht ad c)
  unfold Oper.wp
  simp [execOp, ho, resolve, invoke, builtin, hs, hx, hrun, Result.andThen]
  exact hK _ _ h
theorem rdV_src {w : World} {b off : Nat} {L : List V3} (h : RdV w (some ⟨b, off, none⟩) L) : ∀ j u, (cells3 L)[j]? = some u → w.cell? ((⟨b, off, none⟩ : Addr).add j) = some u := by
  intro j u hj
  have hl : j < L.length * 3 := by rw [← cells3_length]; exact (List.getElem?_eq_some_iff.1 hj).1
  obtain ⟨i, r, rfl, hr⟩ : ∃ i r, j = i * 3 + r ∧ r < 3 := ⟨j / 3, j % 3, by omega, by omega⟩
  have hi : i < L.length := by omega
  obtain ⟨b', off', e, h0, h1, h2⟩ := h i hi
  simp only [Option.some.injEq, Addr.mk.injEq, and_true] at e
  obtain ⟨rfl, rfl⟩ := e
  obtain ⟨g0, g1, g2⟩ := cells3_get L i hi
  rw [Addr.add_lit]
  match r, hr with
  | 0, _ => rw [Nat.add_zero, g0] at hj; rw [Nat.add_zero, h0]; exact hj
  | 1, _ => rw [g1] at hj; rw [← Nat.add_assoc, h1]; exact hj
  | 2, _ => rw [g2] at hj; rw [← Nat.add_assoc, h2]; exact hj
theorem cells3_one (L : List V3) : ∀ u ∈ cells3 L, u.oneCell' = true := by
  intro u hu
  unfold cells3 at hu
  obtain ⟨v, -, hv⟩ := List.mem_flatMap.1 hu
  simp only [List.mem_cons, List.not_mem_nil, or_false] at hv
  rcases hv with rfl | rfl | rfl <;> rfl
/-- a row of these values, of the call's own -/
def NewV (w : World) (base : Nat) (a : Option Addr) (c : Nat) (L : List V3) : Prop := w.ownsRow base 105 3 (.slice a L.length c) L.length (cells3 L) ∧ LieV a L.length c
theorem NewV.rd {w : World} {base c : Nat} {a : Option Addr} {L : List V3} (h : NewV w base a c L) : RdV w a L := by
  obtain ⟨a', c', e, hr, _⟩ := rdV_owns h.1
  simp only [Value.slice.injEq] at e
  rw [e.1]; exact hr
theorem NewV.of {w : World} {base c g : Nat} {L : List V3} (h : w.ownsRow base 105 3 (.slice (some ⟨g, 0, none⟩) L.length c) L.length (cells3 L)) : NewV w base (some ⟨g, 0, none⟩) c L := ⟨h, (OwnV.of h).lies⟩
theorem NewV.later {w w' : World} {base c : Nat} {a : Option Addr} {L : List V3} (h : NewV w base a c L) (hb : Below w.heap.size w w') : NewV w' base a c L := ⟨ownsRow_below h.1 hb, h.2⟩
theorem NewV.low {w : World} {base base' c : Nat} {a : Option Addr} {L : List V3} (h : NewV w base a c L) (hb : base' ≤ base) : NewV w base' a c L := by
  refine ⟨⟨h.1.1, ?_⟩, h.2⟩
  rcases h.1.2 with h2 | ⟨g, cap, cur, h1, hb', rest⟩
  · exact .inl h2
  · exact .inr ⟨g, cap, cur, h1, by omega, rest⟩
theorem NewV.grown {w w' : World} {base c q : Nat} {a : Option Addr} {L : List V3} (h : NewV w base a c L) (hg : w.grownBy w' (some q)) (hq : q < base) : NewV w' base a c L := by
  refine ⟨World.ownsRow.kept h.1 hg (.inr (fun e => ?_)), h.2⟩
  have := (h.1.lt q e).1
  omega
theorem NewV.own {w : World} {base c : Nat} {a : Option Addr} {L : List V3} (h : NewV w base a c L) (hne : L ≠ []) : ∃ g, a = some ⟨g, 0, none⟩ ∧ base ≤ g ∧ OwnV w g c L := by
  rcases h.1.2 with ⟨h1, h0⟩ | ⟨g, cap, cur, h1, hb, rest⟩
  · exact absurd (List.eq_nil_of_length_eq_zero h0) hne
  · simp only [Value.slice.injEq] at h1
    obtain ⟨rfl, -, rfl⟩ := h1
    exact ⟨g, rfl, hb, OwnV.of h.1⟩
theorem NewV.nil (w : World) (base : Nat) : NewV w base none 0 [] := ⟨World.ownsRow_nil _ _ _ _, LieV.nil⟩
theorem empty_new (w : World) (base : Nat) (hb : base ≤ w.heap.size) : (w.alloc (.cells #[] 105)).ownsRow base 105 3 (.slice (some ⟨w.heap.size, 0, none⟩) 0 0) ([] : List V3).length (cells3 []) := World.ownsRow_lit w #[] 0 hb (Nat.zero_le _) rfl

set_option maxRecDepth 100000 in
set_option maxHeartbeats 1600000 in
theorem clone_any (a : Option Addr) (cap : Nat) (L : List V3) (w : World) (hr : RdV w a L) (hl : LieV a L.length cap) (hn : L.length ≤ 1048580) :
    Calls Try.prog 130 #[.slice a L.length cap] w fun e w' => ∃ a' c', e = .returned (.slice a' L.length c') ∧ NewV w' w.heap.size a' c' L ∧ Below w.heap.size w w' := by
  obtain ⟨i0, hi, hz0, hz1, hz2⟩ := info_parts Try.info105
  have HL := hide hl
  clear hl
  cases a with
  | none =>
    have hL : L = [] := by
      rcases HL.out with ⟨-, h0, -⟩ | ⟨b, off, e, -⟩
      · exact List.eq_nil_of_length_eq_zero h0
      · cases e
    have hc : cap = 0 := by
      rcases HL.out with ⟨-, -, h0⟩ | ⟨b, off, e, -⟩
      · exact h0
      · cases e
    subst hL hc
    have he : ∀ W : World, (binOp .eql 87 (.slice none 0 0) (.slice none 0 0)).run Try.prog W = .ok (.bool true) W := fun _ => rfl
    go_enter Try.func130, Try.ntmps130
    go_wp2
    go_ret
    exact ⟨none, 0, rfl, NewV.nil _ _, Below.refl _ _⟩
  | some ad =>
    have he : ∀ (W : World) (n c : Nat), (binOp .eql 87 (.slice (some ad) n c) (.slice none 0 0)).run Try.prog W = .ok (.bool false) W := fun _ _ _ => rfl
    have b0 := below_al w (.cells #[] 105)
    have HE := hide (empty_new w w.heap.size (Nat.le_refl _))
    by_cases hL : L = []
    · subst hL
      go_enter Try.func130, Try.ntmps130
      go_wp2_with (at_builtin; refine wpList_append_zero rfl (.tmp 5) (.tmp 6) 87 rfl 105 i0 Try.underlying87 hi (some ⟨w.heap.size, 0, none⟩) 0 0 rfl (Nat.le_refl _) (some ad) cap rfl ?_)
      go_ret
      exact ⟨_, _, rfl, NewV.of HE.out, b0⟩
    · obtain ⟨b, off, e0, hbw, -⟩ := hr.open (List.length_pos_iff.2 hL)
      simp only [Option.some.injEq] at e0
      subst e0
      have HSrc := hide (rdV_src (hr.below b0))
      have hpos : 0 < L.length := List.length_pos_iff.2 hL
      obtain ⟨n, hN⟩ : ∃ n, n = L.length := ⟨_, rfl⟩
      have hC := cells3_length L
      rw [← hN] at hn hpos hC ⊢
      have HN := hide hN
      have HC := hide hC
      clear hN hC hr hL
      go_enter Try.func130, Try.ntmps130
      go_wp2_with (at_builtin; refine wpList_append_lies _ rfl (.tmp 5) (.tmp 6) 87 rfl w.heap.size 105 i0 (.agg #[.int .i64 0, .int .i64 0, .string ⟨#[]⟩]) 3 32 Try.underlying87 hi hz0 hz1 hz2 rfl (by omega) (.slice (some ⟨w.heap.size, 0, none⟩) 0 0) 0 [] rfl HE.out ⟨b, off, none⟩ n cap (cells3 L) ?hx HC.out HSrc.out (cells3_one L) hpos (by unfold maxLen; omega) (by omega) b0.size _ rfl ?_)
      case hx => simp [Act.eval]
      intro g5 c5 w5 ho5 hg5 hat5 hlt5
      have HO5 : Hid (NewV w5 w.heap.size (some ⟨g5, 0, none⟩) c5 L) := by
        refine NewV.of ?_
        rw [← HN.out]
        simpa using ho5
      have B5 := b0.grown hg5 b0.size (fun k hk => (HE.out.lt k hk).1)
      clear ho5 hg5 hat5 hlt5
      go_wp2
      go_ret
      exact ⟨_, _, rfl, HO5.out, B5⟩

set_option maxRecDepth 100000 in
set_option maxHeartbeats 1600000 in
theorem l3Copy_any (kd : ByteArray) (a : Option Addr) (cap : Nat) (L : List V3) (w : World) (hr : RdV w a L) (hn : L.length ≤ 1048580) :
    Calls Try.prog 92 #[.agg #[.string kd, .slice a L.length cap]] w fun e w' => ∃ a' c', e = .returned (.agg #[.string kd, .slice a' L.length c']) ∧ NewV w' w.heap.size a' c' L ∧ Below w.heap.size w w' := by
  obtain ⟨i0, hi, hz0, hz1, hz2⟩ := info_parts Try.info105
  have b0 := below_al w (.cells #[.string kd, .slice a L.length cap] 89)
  have b1 := b0.alloc b0.size (.cells #[.string ⟨#[]⟩, .slice none 0 0] 89)
  have b2 := b1.alloc b1.size (.cells #[] 105)
  have hX := box_old (box_old (box2_new w (.string kd) (.slice a L.length cap) 89) (by simp) (.cells #[.string ⟨#[]⟩, .slice none 0 0] 89)) (by simp; omega) (.cells #[] 105)
  have hR := box_old (box2_new (w.alloc (.cells #[.string kd, .slice a L.length cap] 89)) (.string ⟨#[]⟩) (.slice none 0 0) 89) (by simp) (.cells #[] 105)
  have hE := empty_new ((w.alloc (.cells #[.string kd, .slice a L.length cap] 89)).alloc (.cells #[.string ⟨#[]⟩, .slice none 0 0] 89)) (w.heap.size + 1 + 1) (by simp)
  simp only [World.size_alloc] at hX hR hE
  by_cases hL : L = []
  · subst hL
    clear hX hR hE
    have HB := hide (((below_al w (.cells #[.string kd, .slice (some ⟨w.heap.size + 1 + 1, 0, none⟩) 0 0] 89)).alloc (by simp) (.cells #[.string kd, .slice (some ⟨w.heap.size + 1 + 1, 0, none⟩) 0 0] 89)).alloc (by simp; omega) (.cells #[] 105))
    have hE := empty_new ((w.alloc (.cells #[.string kd, .slice (some ⟨w.heap.size + 1 + 1, 0, none⟩) 0 0] 89)).alloc (.cells #[.string kd, .slice (some ⟨w.heap.size + 1 + 1, 0, none⟩) 0 0] 89)) w.heap.size (by simp; omega)
    simp only [World.size_alloc] at hE
    have HE := hide (NewV.of hE)
    clear hE b0 b1 b2
    go_enter Try.func92, Try.ntmps92
    go_wp2_with (at_builtin; refine wpList_append_zero rfl (.tmp 3) (.tmp 5) 87 rfl 105 i0 Try.underlying87 hi (some ⟨w.heap.size + 1 + 1, 0, none⟩) 0 0 rfl (Nat.le_refl _) a cap rfl ?_)
    exact bodyPost_ret (v := .agg #[.string kd, .slice (some ⟨w.heap.size + 1 + 1, 0, none⟩) 0 0]) (by simp [results, Try.results92, go_sem]) rfl ⟨_, _, rfl, HE.out, HB.out⟩
  · obtain ⟨b, off, e0, hbw, -⟩ := hr.open (List.length_pos_iff.2 hL)
    subst e0
    have HSrc := hide (rdV_src (hr.below b2))
    have hpos : 0 < L.length := List.length_pos_iff.2 hL
    obtain ⟨n, hN⟩ : ∃ n, n = L.length := ⟨_, rfl⟩
    have hC := cells3_length L
    rw [← hN] at hn hpos hC hX hR b0 b1 b2 HSrc hE ⊢
    have HN := hide hN
    have HC := hide hC
    have HX := hide hX
    have HR := hide hR
    have HE := hide hE
    have HB := hide b2
    have HZ : Hid (w.heap.size + 1 + 1 ≤ (((w.alloc (.cells #[.string kd, .slice (some ⟨b, off, none⟩) n cap] 89)).alloc (.cells #[.string ⟨#[]⟩, .slice none 0 0] 89)).alloc (.cells #[] 105)).heap.size) := by unfold Hid; simp
    clear hN hC hr hL hX hR hE b0 b1 b2
    go_enter Try.func92, Try.ntmps92
    go_wp2_with (at_builtin; refine wpList_append_lies _ rfl (.tmp 3) (.tmp 5) 87 rfl (w.heap.size + 1 + 1) 105 i0 (.agg #[.int .i64 0, .int .i64 0, .string ⟨#[]⟩]) 3 32 Try.underlying87 hi hz0 hz1 hz2 rfl (by omega) (.slice (some ⟨w.heap.size + 1 + 1, 0, none⟩) 0 0) 0 [] rfl HE.out ⟨b, off, none⟩ n cap (cells3 L) ?hx HC.out HSrc.out (cells3_one L) hpos (by unfold maxLen; omega) (by omega) HZ.out _ rfl ?_)
    case hx => simp [Act.eval]
    intro g5 c5 w5 ho5 hg5 hat5 hlt5
    have HV5 : Hid (NewV w5 (w.heap.size + 1 + 1) (some ⟨g5, 0, none⟩) c5 L) := by
      refine NewV.of ?_
      rw [← HN.out]
      simpa using ho5
    have B5 := HB.out.grown hg5 HB.out.size (fun k hk => Nat.le_trans (by omega) (HE.out.lt k hk).1)
    have HX5 := hide (box_gr HX.out hg5 (show w.heap.size ≠ w.heap.size + 1 + 1 by omega))
    have HR5 := hide (box_gr HR.out hg5 (show w.heap.size + 1 ≠ w.heap.size + 1 + 1 by omega))
    clear ho5 hg5 hat5 hlt5 HSrc HX HR HE HB HZ
    obtain ⟨x0, x1, xf0, xf1⟩ := box2_cell HX5.out
    obtain ⟨r0, r1, rf0, rf1⟩ := box2_cell HR5.out
    have HS := hide (box2_set1 HX5.out (.slice (some ⟨g5, 0, none⟩) n c5))
    have HR2 := hide (box_gr HR5.out HS.out.2 (by omega))
    go_wp2
    refine box2_post HR2.out (fun w4 h4 gr => ?_)
    clear x0 x1 xf0 xf1 r0 r1 rf0 rf1
    obtain ⟨c0, c1, -, -⟩ := box2_cell h4
    exact bodyPost_ret (v := .agg #[.string kd, .slice (some ⟨g5, 0, none⟩) n c5]) (by simp [results, Try.results92, go_sem, c0, c1]) rfl
      ⟨_, _, rfl, ((HV5.out.grown HS.out.2 (by omega)).grown gr (by omega)).low (by omega), below_set (B5.grown HS.out.2 B5.size (fun k hk => by cases hk; omega)) gr (by omega)⟩

theorem box_drew {w w' : World} {R : Nat} {o : Obj} (h : w.heap[R]? = some o) (hb : Below w.drew.heap.size w.drew w') : w'.heap[R]? = some o := box_step (w := w.drew) h hb

set_option maxRecDepth 100000 in
set_option maxHeartbeats 3200000 in
theorem copyFact_any (kd : ByteArray) (a : Option Addr) (cap : Nat) (L : List V3) (w : World) (hr : RdV w a L) (hl : LieV a L.length cap) (hn : L.length ≤ 1048580) :
    Calls Try.prog 98 #[.agg #[.string kd, .slice a L.length cap]] w fun e w' => ∃ a' c', e = .returned (.agg #[.string kd, .slice a' L.length c']) ∧ NewV w' w.heap.size a' c' L ∧ Below w.heap.size w w' := by
  have b0 := below_al w (.cells #[.string kd, .slice a L.length cap] 89)
  have b1 := b0.alloc b0.size (.cells #[.string ⟨#[]⟩, .slice none 0 0] 89)
  have hX := box_old (box2_new w (.string kd) (.slice a L.length cap) 89) (by simp) (.cells #[.string ⟨#[]⟩, .slice none 0 0] 89)
  have hR := box2_new (w.alloc (.cells #[.string kd, .slice a L.length cap] 89)) (.string ⟨#[]⟩) (.slice none 0 0) 89
  have hz : w.heap.size + 1 + 1 ≤ ((w.alloc (.cells #[.string kd, .slice a L.length cap] 89)).alloc (.cells #[.string ⟨#[]⟩, .slice none 0 0] 89)).heap.size := by simp
  simp only [World.size_alloc] at hX hR
  have HL := hide hl
  clear hl
  go_enter Try.func98, Try.ntmps98
  go_wp2_with fail
  have r1 := hr.below b1
  generalize (w.alloc (.cells #[.string kd, .slice a L.length cap] 89)).alloc (.cells #[.string ⟨#[]⟩, .slice none 0 0] 89) = w1 at b1 hX hR r1 hz ⊢
  have HX := hide hX
  have HR := hide hR
  obtain ⟨x0, x1, -, -⟩ := box2_cell hX
  have r1d : RdV w1.drew a L := r1.heap rfl
  clear b0 hX hR hr
  go_region_with (first | (go_at_call 130; refine (clone_any a cap L _ r1d HL.out hn).mono ?_; rintro e w2 ⟨a', c', rfl, hv, hb⟩; obtain ⟨y0, y1, -, -⟩ := box2_cell (box_drew HX.out hb); obtain ⟨z0, z1, zf0, zf1⟩ := box2_cell (box_drew HR.out hb)))
  all_goals
    have hB : Below w.heap.size w w2 := b1.trans ((below_dr hb).mono b1.size)
    have hR2 := box_drew HR.out hb
    go_wp2
    refine box2_post hR2 (fun w4 h4 gr => ?_)
    clear x0 x1 y0 y1 z0 z1 zf0 zf1
    obtain ⟨c0, c1, -, -⟩ := box2_cell h4
    exact bodyPost_ret (v := .agg #[.string kd, .slice a' L.length c']) (by simp [results, Try.results98, go_sem, c0, c1]) rfl
      ⟨_, _, rfl, (hv.grown gr (by simp; omega)).low (by simp; omega), below_set hB gr (by omega)⟩
end Go.Proofs.Ytfgigcdfmkfkjaa
/-
  Four cells (two facts in memory) and what two lists of values read as are kept where all that was there is.
-/
namespace Go.Proofs.Ytfgigcdfmkfkjaa
open Go.RowKit
set_option linter.unusedVariables false

/-- two facts in memory, their lists, and all that was there at the head -/
def Two (w0 : World) (B : Nat) (a b : Option Addr) (L M : List V3) (W : World) : Prop := RdV W a L ∧ RdV W b M ∧ Below B w0 W ∧ B ≤ W.heap.size
theorem Two.keep {w0 W w' : World} {B : Nat} {a b : Option Addr} {L M : List V3} (h : Two w0 B a b L M W) (hb : Below W.heap.size W w') : Two w0 B a b L M w' :=
  ⟨h.1.below hb, h.2.1.below hb, h.2.2.1.trans (hb.mono h.2.2.2), Nat.le_trans h.2.2.2 hb.size⟩
theorem Two.drew {w0 W : World} {B : Nat} {a b : Option Addr} {L M : List V3} (h : Two w0 B a b L M W) : Two w0 B a b L M W.drew :=
  ⟨h.1.heap rfl, h.2.1.heap rfl, h.2.2.1.drew, h.2.2.2⟩
theorem keepF {w0 W w' : World} {B : Nat} {p0 p1 p2 p3 : Addr} {v0 v1 v2 v3 : Value} {a b : Option Addr} {L M : List V3} (hb : Below W.heap.size W w')
    (h : W.cell? p0 = some v0 ∧ W.cell? p1 = some v1 ∧ W.cell? p2 = some v2 ∧ W.cell? p3 = some v3 ∧ Two w0 B a b L M W) :
    w'.cell? p0 = some v0 ∧ w'.cell? p1 = some v1 ∧ w'.cell? p2 = some v2 ∧ w'.cell? p3 = some v3 ∧ Two w0 B a b L M w' := by
  obtain ⟨h0, h1, h2, h3, h4⟩ := h
  have k : ∀ {a : Addr} {v : Value}, W.cell? a = some v → w'.cell? a = some v := fun {a v} h => by rw [hb.cell (World.block_lt_of_cell? W _ h)]; exact h
  exact ⟨k h0, k h1, k h2, k h3, h4.keep hb⟩
theorem rdA {w0 W : World} {B : Nat} {p0 p1 p2 p3 : Addr} {v0 v1 v2 v3 : Value} {a b : Option Addr} {L M : List V3}
    (h : W.cell? p0 = some v0 ∧ W.cell? p1 = some v1 ∧ W.cell? p2 = some v2 ∧ W.cell? p3 = some v3 ∧ Two w0 B a b L M W) : RdV W a L := h.2.2.2.2.1
theorem rdB {w0 W : World} {B : Nat} {p0 p1 p2 p3 : Addr} {v0 v1 v2 v3 : Value} {a b : Option Addr} {L M : List V3}
    (h : W.cell? p0 = some v0 ∧ W.cell? p1 = some v1 ∧ W.cell? p2 = some v2 ∧ W.cell? p3 = some v3 ∧ Two w0 B a b L M W) : RdV W b M := h.2.2.2.2.2.1
end Go.Proofs.Ytfgigcdfmkfkjaa
/-
  The contracts of the laws' own comparison of items and stores: what is plainly the same is found the same.
-/
namespace Go.Proofs.Ytfgigcdfmkfkjaa
open Go.RowKit
set_option linter.unusedVariables false

set_option maxRecDepth 100000 in
set_option maxHeartbeats 1600000 in
theorem eqItem_same (id : Int) (kd : ByteArray) (a b : Option Addr) (ca cb : Nat) (L : List V3) (w : World) (hr : RdV w a L) (hq : RdV w b L) (hn : L.length ≤ 1048580) :
    Calls Try.prog 107 #[.agg #[.int .i64 id, .string kd, .slice a L.length ca], .agg #[.int .i64 id, .string kd, .slice b L.length cb]] w fun e w' =>
      e = .returned (.bool true) ∧ Below w.heap.size w w' := by
  have k1 : (id != id) = false := by simp
  have b0 := below_al w (.cells #[.int .i64 id, .string kd, .slice a L.length ca] 122)
  have b1 := b0.alloc b0.size (.cells #[.int .i64 id, .string kd, .slice b L.length cb] 122)
  go_enter Try.func107, Try.ntmps107
  go_wp2_with fail
  refine (eqFact_same kd a b ca cb L _ (hr.below b1) (hq.below b1) hn).mono ?_
  rintro e w1 ⟨rfl, hb⟩
  have hB : Below w.heap.size w w1 := b1.trans (hb.mono b1.size)
  go_wp2
  go_ret
  exact ⟨rfl, hB⟩
theorem eqItem_of (id id' : Int) (kd kd' : ByteArray) (a b : Option Addr) (ca cb : Nat) (L M : List V3) (w : World) (hr : RdV w a L) (hq : RdV w b M) (hn : L.length ≤ 1048580) (h1 : id = id') (h2 : kd = kd') (h3 : L = M) :
    Calls Try.prog 107 #[.agg #[.int .i64 id, .string kd, .slice a L.length ca], .agg #[.int .i64 id', .string kd', .slice b M.length cb]] w fun e w' =>
      e = .returned (.bool true) ∧ Below w.heap.size w w' := by subst h1 h2 h3; exact eqItem_same id kd a b ca cb L w hr hq hn
/-- two items in memory, their lists, and all that was there at the head -/
theorem keepI {w0 W w' : World} {B : Nat} {p0 p1 p2 p3 p4 p5 : Addr} {v0 v1 v2 v3 v4 v5 : Value} {a b : Option Addr} {L M : List V3} (hb : Below W.heap.size W w')
    (h : W.cell? p0 = some v0 ∧ W.cell? p1 = some v1 ∧ W.cell? p2 = some v2 ∧ W.cell? p3 = some v3 ∧ W.cell? p4 = some v4 ∧ W.cell? p5 = some v5 ∧ Two w0 B a b L M W) :
    w'.cell? p0 = some v0 ∧ w'.cell? p1 = some v1 ∧ w'.cell? p2 = some v2 ∧ w'.cell? p3 = some v3 ∧ w'.cell? p4 = some v4 ∧ w'.cell? p5 = some v5 ∧ Two w0 B a b L M w' := by
  obtain ⟨h0, h1, h2, h3, h4, h5, h6⟩ := h
  have k : ∀ {a : Addr} {v : Value}, W.cell? a = some v → w'.cell? a = some v := fun {a v} h => by rw [hb.cell (World.block_lt_of_cell? W _ h)]; exact h
  exact ⟨k h0, k h1, k h2, k h3, k h4, k h5, h6.keep hb⟩

set_option maxRecDepth 100000 in
set_option maxHeartbeats 3200000 in
theorem eqItemS_same (a b : Option Addr) (ca cb n : Nat) (J K : List It) (w : World) (hr : RdI w a J) (hq : RdI w b K) (hJ : J.length = n) (hpl : J.map It.pl = K.map It.pl) (hm : n ≤ 1048580) (hl : ∀ i, i < J.length → (iAt J i).L.length ≤ 1048580) :
    Calls Try.prog 68 #[.slice a n ca, .slice b n cb] w fun e w' =>
      e = .returned (.bool true) ∧ Below w.heap.size w w' := by
  have HJ := hide hJ
  have HK : Hid (K.length = n) := by unfold Hid; rw [← hJ, pl_len hpl]
  have HP := hide hpl
  have HL := hide hl
  clear hJ hpl hl
  have hnn : ((n : Int) != (n : Int)) = false := by simp
  go_enter Try.func68, Try.ntmps68
  go_wp2
  go_loopw [5] (fun i wr => ∃ (k : Nat), k ≤ n ∧ i = .int .i64 k ∧ Below w.heap.size w wr) (fun i _ => n - (intOf i).toNat)
  case atStart => exact ⟨0, Nat.zero_le _, rfl, Below.refl _ _⟩
  case round =>
    obtain ⟨k, hk, rfl, hbel⟩ := hrel
    by_cases hlt : k < n
    · obtain ⟨b1, o1, e1, hbw1, hc1⟩ := hr.open (by rw [HJ.out]; omega)
      obtain ⟨b2, o2, e2, hbw2, hc2⟩ := hq.open (by rw [HK.out]; omega)
      obtain ⟨c0, c1, c2, hv1⟩ := hc1 k (by rw [HJ.out]; exact hlt)
      obtain ⟨d0, d1, d2, hv2⟩ := hc2 k (by rw [HK.out]; exact hlt)
      have HP1 := pl_at HP.out (i := k) (by rw [HJ.out]; exact hlt)
      have HLk := hide (HL.out k (by rw [HJ.out]; exact hlt))
      replace hv1 := hv1.below hbel
      replace hv2 := hv2.below hbel
      clear hc1 hc2
      subst e1 e2
      rw [← hbel.cell (p := ⟨b1, o1 + k * 3, none⟩) hbw1] at c0
      rw [← hbel.cell (p := ⟨b1, o1 + k * 3 + 1, none⟩) hbw1] at c1
      rw [← hbel.cell (p := ⟨b1, o1 + k * 3 + 2, none⟩) hbw1] at c2
      rw [← hbel.cell (p := ⟨b2, o2 + k * 3, none⟩) hbw2] at d0
      rw [← hbel.cell (p := ⟨b2, o2 + k * 3 + 1, none⟩) hbw2] at d1
      rw [← hbel.cell (p := ⟨b2, o2 + k * 3 + 2, none⟩) hbw2] at d2
      generalize iAt J k = x at c0 c1 c2 hv1 HP1 HLk
      generalize iAt K k = y at d0 d1 d2 hv2 HP1
      obtain ⟨id, kd, va, vc, L⟩ := x
      obtain ⟨id', kd', vb, wc, M⟩ := y
      simp only at c0 c1 c2 hv1 d0 d1 d2 hv2 HP1 HLk
      obtain ⟨rfl, rfl, rfl⟩ := HP1
      have T0 : Two w w.heap.size va vb L L wr := ⟨hv1, hv2, hbel, hbel.size⟩
      clear hv1 hv2 hbel
      go_wp2_with fail
      go_region_held3 (fun W => W.cell? ⟨b1, o1 + k * 3, none⟩ = some (.int .i64 id) ∧ W.cell? ⟨b1, o1 + k * 3 + 1, none⟩ = some (.string kd) ∧ W.cell? ⟨b1, o1 + k * 3 + 2, none⟩ = some (.slice va L.length vc) ∧ W.cell? ⟨b2, o2 + k * 3, none⟩ = some (.int .i64 id) ∧ W.cell? ⟨b2, o2 + k * 3 + 1, none⟩ = some (.string kd) ∧ W.cell? ⟨b2, o2 + k * 3 + 2, none⟩ = some (.slice vb L.length wc) ∧ Two w w.heap.size va vb L L W) (first | exact ⟨c0, c1, c2, d0, d1, d2, T0.drew⟩ | exact keepI (by assumption) (by assumption))
        (first | (go_at_call 107; refine (eqItem_same _ _ _ _ _ _ _ _ T0.drew.1 T0.drew.2.1 HLk.out).mono ?_; rintro e w2 ⟨rfl, hb⟩))
      all_goals
        obtain ⟨-, -, -, -, -, -, T2⟩ : w2.cell? ⟨b1, o1 + k * 3, none⟩ = some (.int .i64 id) ∧ w2.cell? ⟨b1, o1 + k * 3 + 1, none⟩ = some (.string kd) ∧ w2.cell? ⟨b1, o1 + k * 3 + 2, none⟩ = some (.slice va L.length vc) ∧ w2.cell? ⟨b2, o2 + k * 3, none⟩ = some (.int .i64 id) ∧ w2.cell? ⟨b2, o2 + k * 3 + 1, none⟩ = some (.string kd) ∧ w2.cell? ⟨b2, o2 + k * 3 + 2, none⟩ = some (.slice vb L.length wc) ∧ Two w w.heap.size va vb L L w2 := by assumption
        have hB2 := T2.2.2.1
        go_wp2
        go_roundw
        case rel => exact ⟨k + 1, by omega, by go_num, hB2⟩
        case measure => simp [intOf]; omega
    · go_wp2
      go_ret
      exact ⟨rfl, hbel⟩

set_option maxRecDepth 100000 in
set_option maxHeartbeats 1600000 in
theorem eqStore_same (a b : Option Addr) (ca cb n : Nat) (nx : Int) (J K : List It) (w : World) (hr : RdI w a J) (hq : RdI w b K) (hJ : J.length = n) (hpl : J.map It.pl = K.map It.pl) (hm : n ≤ 1048580) (hl : ∀ i, i < J.length → (iAt J i).L.length ≤ 1048580) :
    Calls Try.prog 25 #[.agg #[.slice a n ca, .int .i64 nx], .agg #[.slice b n cb, .int .i64 nx]] w fun e w' =>
      e = .returned (.bool true) ∧ Below w.heap.size w w' := by
  have k1 : (nx != nx) = false := by simp
  have b0 := below_al w (.cells #[.slice a n ca, .int .i64 nx] 53)
  have b1 := b0.alloc b0.size (.cells #[.slice b n cb, .int .i64 nx] 53)
  have hA := box_old (box2_new w (.slice a n ca) (.int .i64 nx) 53) (by simp) (.cells #[.slice b n cb, .int .i64 nx] 53)
  have hC := box2_new (w.alloc (.cells #[.slice a n ca, .int .i64 nx] 53)) (.slice b n cb) (.int .i64 nx) 53
  simp only [World.size_alloc] at hA hC
  go_enter Try.func25, Try.ntmps25
  go_wp2_with fail
  refine (eqItemS_same a b ca cb n J K _ (hr.below b1) (hq.below b1) hJ hpl hm hl).mono ?_
  rintro e w1 ⟨rfl, hb⟩
  have hB : Below w.heap.size w w1 := b1.trans (hb.mono b1.size)
  obtain ⟨a0, a1, -, -⟩ := box2_cell (box_below hA hb (by simp; omega))
  obtain ⟨d0, d1, -, -⟩ := box2_cell (box_below hC hb (by simp))
  clear hA hC hb b0 b1 hr hq hpl hl
  go_wp2
  go_ret
  exact ⟨rfl, hB⟩
end Go.Proofs.Ytfgigcdfmkfkjaa
/-
  What FactOf answers, the tested one and the model's alike: a copy of the first item's fact that has this Id, and true; the zero fact and false where there is none.
-/
namespace Go.Proofs.Ytfgigcdfmkfkjaa
open Go.RowKit
set_option linter.unusedVariables false

/-- the fact of the first item of this Id -/
def facP : List P4 → Int → Option (ByteArray × List V3)
  | [], _ => none
  | p :: r, id => if p.id = id then some (p.kd, p.L) else facP r id
theorem facP_hit {id : Int} : ∀ {J : List It} {k : Nat}, k < J.length → (∀ j, j < k → (iAt J j).id ≠ id) → (iAt J k).id = id → facP (J.map It.pl) id = some ((iAt J k).kd, (iAt J k).L)
  | [], k, h, _, _ => absurd h (Nat.not_lt_zero _)
  | x :: r, 0, h, _, hs => by
    have e : iAt (x :: r) 0 = x := rfl
    rw [e] at hs ⊢
    show (if x.id = id then _ else _) = _
    rw [if_pos hs]; rfl
  | x :: r, k + 1, h, hn, hs => by
    have e : ∀ j, iAt (x :: r) (j + 1) = iAt r j := fun j => by simp [iAt, List.getD]
    have h0 := hn 0 (by omega)
    have e0 : iAt (x :: r) 0 = x := rfl
    rw [e0] at h0
    show (if x.id = id then _ else facP (r.map It.pl) id) = _
    rw [if_neg h0, e]
    rw [e] at hs
    exact facP_hit (by simpa using h) (fun j hj => by have := hn (j + 1) (by omega); rw [e] at this; exact this) hs
theorem facP_none {id : Int} : ∀ {J : List It}, (∀ j, j < J.length → (iAt J j).id ≠ id) → facP (J.map It.pl) id = none
  | [], _ => rfl
  | x :: r, hn => by
    have e : ∀ j, iAt (x :: r) (j + 1) = iAt r j := fun j => by simp [iAt, List.getD]
    have h0 := hn 0 (by simp)
    have e0 : iAt (x :: r) 0 = x := rfl
    rw [e0] at h0
    show (if x.id = id then _ else facP (r.map It.pl) id) = _
    rw [if_neg h0]
    exact facP_none (fun j hj => by have := hn (j + 1) (by simpa using hj); rw [e] at this; exact this)
/-- what is answered, none being the zero fact -/
def ansP (o : Option (ByteArray × List V3)) : ByteArray × List V3 × Bool := match o with
  | some (kd, L) => (kd, L, true)
  | none => (⟨#[]⟩, [], false)
/-- a fact is answered, its values in a row of the call's own -/
def GivesFO (e : Ending) (w : World) (base : Nat) (r : ByteArray × List V3 × Bool) : Prop := ∃ a c, e = .returned (.tuple #[.agg #[.string r.1, .slice a r.2.1.length c], .bool r.2.2]) ∧ NewV w base a c r.2.1

set_option maxRecDepth 100000 in
set_option maxHeartbeats 3200000 in
theorem specFactOf_any (a : Option Addr) (n cap : Nat) (nx id : Int) (J : List It) (w : World) (hr : RdI w a J) (hJ : J.length = n) (hn : n ≤ 1048580) (hl : ∀ i, i < J.length → (iAt J i).L.length ≤ 1048580) :
    Calls Try.prog 53 #[.agg #[.slice a n cap, .int .i64 nx], .int .i64 id] w fun e w' => GivesFO e w' w.heap.size (ansP (facP (J.map It.pl) id)) ∧ Below w.heap.size w w' := by
  have HJ := hide hJ
  have HL := hide hl
  clear hJ hl
  have b0 := below_al w (.cells #[.slice a n cap, .int .i64 nx] 53)
  have b1 := b0.alloc b0.size (.cells #[.string ⟨#[]⟩, .slice none 0 0] 89)
  have hA := box_old (box2_new w (.slice a n cap) (.int .i64 nx) 53) (by simp) (.cells #[.string ⟨#[]⟩, .slice none 0 0] 89)
  have hR := box2_new (w.alloc (.cells #[.slice a n cap, .int .i64 nx] 53)) (.string ⟨#[]⟩) (.slice none 0 0) 89
  simp only [World.size_alloc] at hA hR
  obtain ⟨x0, -, -, -⟩ := box2_cell hA
  replace hr := hr.below b1
  have hz1 := (Array.getElem?_eq_some_iff.1 hA).1
  have HR := hide hR
  go_enter Try.func53, Try.ntmps53
  go_wp2
  generalize (w.alloc (.cells #[.slice a n cap, .int .i64 nx] 53)).alloc (.cells #[.string ⟨#[]⟩, .slice none 0 0] 89) = w1 at b1 hr x0 hz1 HR ⊢
  clear b0 hA hR
  go_loopw [6] (fun i wr => ∃ (k : Nat), k ≤ n ∧ i = .int .i64 k ∧ (∀ j, j < k → (iAt J j).id ≠ id) ∧ wr = w1) (fun i _ => n - (intOf i).toNat)
  case atStart => exact ⟨0, Nat.zero_le _, rfl, fun j hj => absurd hj (Nat.not_lt_zero _), rfl⟩
  case round =>
    obtain ⟨k, hk, rfl, hno, rfl⟩ := hrel
    have HNo := hide hno
    clear hno
    by_cases hlt : k < n
    · obtain ⟨b2, o2, e2, hbw2, hc2⟩ := hr.open (by rw [HJ.out]; omega)
      obtain ⟨c0, c1, c2, hv⟩ := hc2 k (by rw [HJ.out]; exact hlt)
      have HLk := hide (HL.out k (by rw [HJ.out]; exact hlt))
      have HHit := hide (facP_hit (id := id) (k := k) (J := J) (by rw [HJ.out]; exact hlt) HNo.out)
      clear hc2
      subst e2
      obtain ⟨x, hx⟩ : ∃ x, x = iAt J k := ⟨_, rfl⟩
      rw [← hx] at c0 c1 c2 hv HLk HHit
      have HX := hide hx
      clear hx
      obtain ⟨id', kd', va, vc, L⟩ := x
      simp only at c0 c1 c2 hv HLk HHit
      cases hs : (id' == id)
      · go_wp2
        go_roundw
        case rel => exact ⟨k + 1, by omega, by go_num, fun j hj => by
          by_cases hjk : j = k
          · rw [hjk, ← HX.out]; simpa using hs
          · exact HNo.out j (by omega), trivial⟩
        case measure => simp [intOf]; omega
      · have HH := hide (HHit.out (by simpa using hs))
        go_wp2_with fail
        refine (l3Copy_any kd' va vc L _ hv HLk.out).mono ?_
        rintro e w2 ⟨a', c', rfl, hv2, hb2⟩
        have hB2 : Below w.heap.size w w2 := b1.trans (hb2.mono b1.size)
        have hR2 := box_step HR.out hb2
        obtain ⟨z0, z1, zf0, zf1⟩ := box2_cell hR2
        have hgz := (Array.getElem?_eq_some_iff.1 HR.out).1
        go_wp2
        refine box2_post hR2 (fun w4 h4 gr => ?_)
        clear z0 z1 zf0 zf1
        obtain ⟨d0, d1, -, -⟩ := box2_cell h4
        exact bodyPost_ret (v := .tuple #[.agg #[.string kd', .slice a' L.length c'], .bool true]) (by simp [results, Try.results53, go_sem, d0, d1]) rfl
          ⟨by rw [HH.out]; exact ⟨a', c', rfl, (hv2.grown gr hgz).low b1.size⟩, below_set hB2 gr (by omega)⟩
    · have HH : Hid (facP (J.map It.pl) id = none) := facP_none (fun j hj => HNo.out j (by rw [HJ.out] at hj; omega))
      obtain ⟨z0, z1, zf0, zf1⟩ := box2_cell HR.out
      go_wp2
      refine box2_post HR.out (fun w4 h4 gr => ?_)
      clear z0 z1 zf0 zf1
      obtain ⟨d0, d1, -, -⟩ := box2_cell h4
      exact bodyPost_ret (v := .tuple #[.agg #[.string ⟨#[]⟩, .slice none 0 0], .bool false]) (by simp [results, Try.results53, go_sem, d0, d1]) rfl
        ⟨by rw [HH.out]; exact ⟨none, 0, rfl, NewV.nil _ _⟩, below_set b1 gr (by omega)⟩

set_option maxRecDepth 100000 in
set_option maxHeartbeats 3200000 in
theorem implFactOf_any (a : Option Addr) (n cap : Nat) (nx id : Int) (J : List It) (w : World) (hr : RdI w a J) (hJ : J.length = n) (hn : n ≤ 1048580) (hl : ∀ i, i < J.length → (iAt J i).L.length ≤ 1048580) (hli : ∀ i, i < J.length → LieV (iAt J i).a (iAt J i).L.length (iAt J i).cap) :
    Calls Try.prog 61 #[.agg #[.slice a n cap, .int .i64 nx], .int .i64 id] w fun e w' => GivesFO e w' w.heap.size (ansP (facP (J.map It.pl) id)) ∧ Below w.heap.size w w' := by
  have HJ := hide hJ
  have HL := hide hl
  have HLi := hide hli
  clear hJ hl hli
  have b0 := below_al w (.cells #[.slice a n cap, .int .i64 nx] 53)
  have b1 := b0.alloc b0.size (.cells #[.string ⟨#[]⟩, .slice none 0 0] 89)
  have hR := box2_new (w.alloc (.cells #[.slice a n cap, .int .i64 nx] 53)) (.string ⟨#[]⟩) (.slice none 0 0) 89
  simp only [World.size_alloc] at hR
  replace hr := hr.below b1
  have HR := hide hR
  go_enter Try.func61, Try.ntmps61
  go_wp2
  generalize (w.alloc (.cells #[.slice a n cap, .int .i64 nx] 53)).alloc (.cells #[.string ⟨#[]⟩, .slice none 0 0] 89) = w1 at b1 hr HR ⊢
  clear b0 hR
  go_loopw [11] (fun i wr => ∃ (k : Nat), k ≤ n ∧ i = .int .i64 k ∧ (∀ j, j < k → (iAt J j).id ≠ id) ∧ Below w1.heap.size w1 wr) (fun i _ => n - (intOf i).toNat)
  case atStart => exact ⟨0, Nat.zero_le _, rfl, fun j hj => absurd hj (Nat.not_lt_zero _), Below.refl _ _⟩
  case round =>
    obtain ⟨k, hk, rfl, hno, hbel⟩ := hrel
    have HNo := hide hno
    clear hno
    have hB : Below w.heap.size w wr := b1.trans (hbel.mono b1.size)
    have HRr := hide (box_step HR.out hbel)
    by_cases hlt : k < n
    · obtain ⟨b2, o2, e2, hbw2, hc2⟩ := (hr.below hbel).open (by rw [HJ.out]; omega)
      obtain ⟨c0, c1, c2, hv⟩ := hc2 k (by rw [HJ.out]; exact hlt)
      have HLk := hide (HL.out k (by rw [HJ.out]; exact hlt))
      have HLik := hide (HLi.out k (by rw [HJ.out]; exact hlt))
      have HHit := hide (facP_hit (id := id) (k := k) (J := J) (by rw [HJ.out]; exact hlt) HNo.out)
      clear hc2
      subst e2
      obtain ⟨x, hx⟩ : ∃ x, x = iAt J k := ⟨_, rfl⟩
      rw [← hx] at c0 c1 c2 hv HLk HLik HHit
      have HX := hide hx
      clear hx
      obtain ⟨id', kd', va, vc, L⟩ := x
      simp only at c0 c1 c2 hv HLk HLik HHit
      have ba := below_al wr (.cells #[.int .i64 id', .string kd', .slice va L.length vc] 122)
      have hba : Below w1.heap.size w1 (wr.alloc (.cells #[.int .i64 id', .string kd', .slice va L.length vc] 122)) := hbel.trans (ba.mono hbel.size)
      cases hs : (id' == id)
      · go_wp2
        go_roundw
        case rel => exact ⟨k + 1, by omega, by go_num, fun j hj => by
          by_cases hjk : j = k
          · rw [hjk, ← HX.out]; simpa using hs
          · exact HNo.out j (by omega), hba⟩
        case measure => simp [intOf]; omega
      · have HH := hide (HHit.out (by simpa using hs))
        go_wp2_with fail
        refine (copyFact_any kd' va vc L _ (hv.below ba) HLik.out HLk.out).mono ?_
        rintro e w2 ⟨a', c', rfl, hv2, hb2⟩
        have hb3 : Below wr.heap.size wr w2 := ba.trans (hb2.mono ba.size)
        have hB2 : Below w.heap.size w w2 := hB.trans (hb3.mono hB.size)
        have hR2 := box_step HRr.out hb3
        obtain ⟨z0, z1, zf0, zf1⟩ := box2_cell hR2
        have hgz := (Array.getElem?_eq_some_iff.1 HRr.out).1
        have hws := hB.size
        clear hb2 ba hba c0 c1 c2 hv
        go_wp2
        refine box2_post hR2 (fun w4 h4 gr => ?_)
        clear z0 z1 zf0 zf1
        obtain ⟨d0, d1, -, -⟩ := box2_cell h4
        exact bodyPost_ret (v := .tuple #[.agg #[.string kd', .slice a' L.length c'], .bool true]) (by simp [results, Try.results61, go_sem, d0, d1]) rfl
          ⟨by rw [HH.out]; exact ⟨a', c', rfl, (hv2.grown gr (by simp; omega)).low (by simp; omega)⟩, below_set hB2 gr (by omega)⟩
    · have HH : Hid (facP (J.map It.pl) id = none) := facP_none (fun j hj => HNo.out j (by rw [HJ.out] at hj; omega))
      obtain ⟨z0, z1, zf0, zf1⟩ := box2_cell HRr.out
      go_wp2
      refine box2_post HRr.out (fun w4 h4 gr => ?_)
      clear z0 z1 zf0 zf1
      obtain ⟨d0, d1, -, -⟩ := box2_cell h4
      exact bodyPost_ret (v := .tuple #[.agg #[.string ⟨#[]⟩, .slice none 0 0], .bool false]) (by simp [results, Try.results61, go_sem, d0, d1]) rfl
        ⟨by rw [HH.out]; exact ⟨none, 0, rfl, NewV.nil _ _⟩, below_set hB gr (by omega)⟩
end Go.Proofs.Ytfgigcdfmkfkjaa
/-
  Rows of numbers: what a slice of them reads as (RdN), and the contracts of the laws' own helpers on them.
-/
namespace Go.Proofs.Ytfgigcdfmkfkjaa
open Go.RowKit
set_option linter.unusedVariables false

def valsN (zs : List Int) : List Value := zs.map (Value.int .i64)
def zAt (zs : List Int) (i : Nat) : Int := zs.getD i 0
theorem zAt_in {zs : List Int} {i : Nat} (h : i < zs.length) : zAt zs i = zs[i] := by simp [zAt, List.getD, h]
theorem valsN_length (zs : List Int) : (valsN zs).length = zs.length := by simp [valsN]
theorem valsN_get {zs : List Int} {i : Nat} (h : i < zs.length) : (valsN zs)[i]? = some (.int .i64 (zAt zs i)) := by rw [zAt_in h]; simp [valsN, h]
def RdN (w : World) (a : Option Addr) (zs : List Int) : Prop := ∀ i, i < zs.length → ∃ b off, a = some ⟨b, off, none⟩ ∧ w.cell? ⟨b, off + i, none⟩ = some (.int .i64 (zAt zs i))
theorem RdN.open {w : World} {a : Option Addr} {zs : List Int} (h : RdN w a zs) (hp : 0 < zs.length) :
    ∃ b off, a = some ⟨b, off, none⟩ ∧ b < w.heap.size ∧ ∀ i, i < zs.length → w.cell? ⟨b, off + i, none⟩ = some (.int .i64 (zAt zs i)) := by
  obtain ⟨b, off, rfl, h0⟩ := h 0 hp
  refine ⟨b, off, rfl, World.block_lt_of_cell? w _ h0, fun i hi => ?_⟩
  obtain ⟨b2, off2, e, h1⟩ := h i hi
  simp only [Option.some.injEq, Addr.mk.injEq] at e
  rw [e.1, e.2.1]; exact h1
theorem rdN_owns {w : World} {base n : Nat} {T : TypeId} {v : Value} {zs : List Int} (h : w.ownsRow base T 1 v n (valsN zs)) :
    ∃ a cap, v = .slice a zs.length cap ∧ RdN w a zs ∧ n = zs.length := by
  have hn : n = zs.length := by have := h.1; rw [valsN_length] at this; omega
  subst hn
  rcases h.2 with ⟨rfl, h0⟩ | ⟨g, cap, cur, rfl, hb, hg, hnc, hcm, hsz, htake⟩
  · exact ⟨none, 0, by rw [h0], fun i hi => by omega, rfl⟩
  · refine ⟨_, cap, rfl, fun i hi => ⟨g, 0, rfl, ?_⟩, rfl⟩
    have e0 := h.cellAt i (by omega)
    rw [Nat.zero_add, e0]; exact valsN_get hi
theorem rdN_of {w : World} {base n m c : Nat} {T : TypeId} {a : Option Addr} {zs : List Int} (h : w.ownsRow base T 1 (.slice a m c) n (valsN zs)) : RdN w a zs := by
  obtain ⟨a', c', e, hr, -⟩ := rdN_owns h
  simp only [Value.slice.injEq] at e
  rw [e.1]; exact hr
theorem below_dn' {w u : World} {n : Nat} (k : Below (w.drewN n).heap.size (w.drewN n) u) : Below w.heap.size w u :=
  (show Below w.heap.size w (w.drewN n) from ⟨rfl, rfl, rfl, Nat.le_refl _, fun _ _ => rfl⟩).trans k

set_option maxRecDepth 100000 in
set_option maxHeartbeats 1600000 in
theorem eqIntS_same (a b : Option Addr) (n ca cb : Nat) (zs : List Int) (w : World) (hz : zs.length = n) (hr : RdN w a zs) (hq : RdN w b zs) (hn : n ≤ 1048580) :
    Calls Try.prog 26 #[.slice a n ca, .slice b n cb] w fun e w' => e = .returned (.bool true) ∧ Below w.heap.size w w' := by
  have HZ := hide hz
  clear hz
  have hnn : ((n : Int) != (n : Int)) = false := by simp
  go_enter Try.func26, Try.ntmps26
  go_wp2
  go_loopw [5] (fun i wr => ∃ (k nd : Nat), k ≤ n ∧ i = .int .i64 k ∧ wr = w.drewN nd) (fun i _ => n - (intOf i).toNat)
  case atStart => exact ⟨0, 0, Nat.zero_le _, rfl, rfl⟩
  case round =>
    obtain ⟨k, nd, hk, rfl, rfl⟩ := hrel
    by_cases hlt : k < n
    · obtain ⟨b1, o1, e1, -, hc1⟩ := hr.open (by rw [HZ.out]; omega)
      obtain ⟨b2, o2, e2, -, hc2⟩ := hq.open (by rw [HZ.out]; omega)
      have c0 := hc1 k (by rw [HZ.out]; exact hlt)
      have d0 := hc2 k (by rw [HZ.out]; exact hlt)
      have l1 : (k : Int) < (n : Int) := by omega
      clear hc1 hc2
      subst e1 e2
      generalize zAt zs k = z at c0 d0
      have k1 : (z != z) = false := by simp
      go_wp2
      go_quiet (fail)
      go_wp2
      go_roundw
      case rel => exact ⟨k + 1, _, by omega, by go_num, rfl⟩
      case measure => simp [intOf]; omega
    · go_wp2
      go_ret
      exact ⟨rfl, below_dn' (Below.refl _ _)⟩

def marksN (k n : Nat) : List Int := (List.range n).map fun i => ((k + i : Nat) : Int)
theorem marksN_length (k n : Nat) : (marksN k n).length = n := by simp [marksN]
theorem marksN_succ (k n : Nat) : marksN k (n + 1) = marksN k n ++ [((k + n : Nat) : Int)] := by simp [marksN, List.range_succ]
theorem marksN_at {k n i : Nat} (h : i < n) : zAt (marksN k n) i = ((k + i : Nat) : Int) := by
  rw [zAt_in (by rw [marksN_length]; exact h)]; simp [marksN]
def partN (xs : List Value) (k j : Nat) : List Value := valsN (marksN k j) ++ xs.drop j
theorem partN_set {xs : List Value} {k j : Nat} (h : j < xs.length) : (partN xs k j).set j (.int .i64 ((k + j : Nat) : Int)) = partN xs k (j + 1) := by
  unfold partN
  have hl : (valsN (marksN k j)).length = j := by rw [valsN_length, marksN_length]
  rw [List.set_append_right _ _ (by omega), hl, Nat.sub_self, List.drop_eq_getElem_cons h, List.set_cons_zero, marksN_succ]
  simp [valsN]
theorem partN_end {xs : List Value} {k j : Nat} (h : xs.length ≤ j) : partN xs k j = valsN (marksN k j) := by
  unfold partN; rw [List.drop_eq_nil_of_le h, List.append_nil]
theorem partN_length {xs : List Value} {k j : Nat} (h : j ≤ xs.length) : (partN xs k j).length = xs.length := by
  unfold partN; rw [List.length_append, valsN_length, marksN_length, List.length_drop]; omega
theorem grown_t {a b c : World} {row : Option Nat} (h : a.grownBy b row) (k : b.grownBy c row) : a.grownBy c row :=
  ⟨k.os.trans h.os, k.tape.trans h.tape, k.output.trans h.output, Nat.le_trans h.size k.size, fun i hi hne => (k.block i (Nat.lt_of_lt_of_le hi h.size) hne).trans (h.block i hi hne)⟩

set_option maxRecDepth 100000 in
set_option maxHeartbeats 1600000 in
theorem markIntS_any (g n cap base k0 : Nat) (xs : List Value) (w : World) (hown : w.ownsRow base 3 1 (.slice (some ⟨g, 0, none⟩) n cap) n xs) (hn : n ≤ 33554500) (hk : k0 ≤ 33554500) :
    Calls Try.prog 29 #[.slice (some ⟨g, 0, none⟩) n cap, .int .i64 (k0 : Int)] w fun e w' =>
      e = .returned (.int .i64 ((k0 + n : Nat) : Int)) ∧ w'.ownsRow base 3 1 (.slice (some ⟨g, 0, none⟩) n cap) n (valsN (marksN k0 n)) ∧ w.grownBy w' (some g) := by
  have HX : Hid (xs.length = n) := by have := hown.1; unfold Hid; omega
  have hown0 := hide hown
  clear hown
  go_enter Try.func29, Try.ntmps29
  go_wp2
  go_loopw [1, 5] (fun kk i wr => ∃ j : Nat, j ≤ n ∧ i = .int .i64 j ∧ kk = .int .i64 ((k0 + j : Nat) : Int) ∧ wr.ownsRow base 3 1 (.slice (some ⟨g, 0, none⟩) n cap) n (partN xs k0 j) ∧ w.grownBy wr (some g)) (fun _ i _ => n - (intOf i).toNat)
  case atStart => exact ⟨0, Nat.zero_le _, rfl, rfl, hown0.out, World.grownBy.refl _ _⟩
  case round =>
    obtain ⟨j, hj, rfl, rfl, hown, hgr⟩ := hrel
    by_cases hlt : j < n
    · obtain ⟨u, h2⟩ : ∃ u, wr.cell? ⟨g, j, none⟩ = some u := by
        rw [hown.cellAt j (by omega), List.getElem?_eq_getElem (by rw [partN_length (by rw [HX.out]; exact hj), HX.out]; exact hlt)]
        exact ⟨_, rfl⟩
      have h3 : wr.frozen? ⟨g, j, none⟩ = false := hown.frozenAt j
      have HO := hide (hown.stored j (.int .i64 ((k0 + j : Nat) : Int)))
      rw [partN_set (by rw [HX.out]; exact hlt)] at HO
      clear hown
      go_wp2
      go_roundw
      case rel =>
        refine ⟨j + 1, by omega, by go_num, by go_num, ?_⟩
        have HO2 := HO.out
        rw [Int.natCast_add] at HO2
        exact ⟨HO2.1, grown_t hgr HO2.2⟩
      case measure => simp [intOf]; omega
    · have hjn : j = n := by omega
      have HZ : Hid (wr.ownsRow base 3 1 (.slice (some ⟨g, 0, none⟩) n cap) n (valsN (marksN k0 n))) := by
        unfold Hid
        rw [partN_end (by rw [HX.out]; omega), hjn] at hown
        exact hown
      have HJ := hide hjn
      clear hown hjn
      go_wp2
      go_ret
      exact ⟨ret_int (by rw [HJ.out]), HZ.out, hgr⟩

set_option maxRecDepth 100000 in
set_option maxHeartbeats 1600000 in
theorem markIntS_nil (w : World) : Calls Try.prog 29 #[.slice none 0 0, .int .i64 1] w fun e w' => e = .returned (.int .i64 1) ∧ w' = w := by
  go_enter Try.func29, Try.ntmps29
  go_wp2
  go_rounds 1
  go_ret
  exact ⟨rfl, rfl⟩
theorem markIntS_row (base n : Nat) (v : Value) (zs : List Int) (w : World) (hown : w.ownsRow base 3 1 v n (valsN zs)) (hn : n ≤ 33554400) :
    Calls Try.prog 29 #[v, .int .i64 1] w fun e w' =>
      e = .returned (.int .i64 ((1 + n : Nat) : Int)) ∧ w'.ownsRow base 3 1 v n (valsN (marksN 1 n)) ∧ w.grownBy w' v.ownBlock := by
  rcases hown.2 with ⟨rfl, h0⟩ | ⟨g, cap, cur, rfl, hb, rest⟩
  · refine (markIntS_nil w).mono fun e w' h => ?_
    obtain ⟨h1, rfl⟩ := h
    subst h0
    exact ⟨by rw [h1]; rfl, World.ownsRow_nil _ _ _ _, World.grownBy.refl _ _⟩
  · exact markIntS_any g n cap base 1 _ w hown (by omega) (by omega)

end Go.Proofs.Ytfgigcdfmkfkjaa
/-
  A row of numbers that came in, and the contracts of the laws' own helpers on it: szIntS counts off, toIntS copies.
-/
namespace Go.Proofs.Ytfgigcdfmkfkjaa
open Go.ChangeShapes Go.WideShapes Go.ChangeAt Go.RowKit Go.Joins Go.Deep
set_option linter.unusedVariables false
set_option maxRecDepth 100000

def IsInts (w : World) (a : Option Addr) (len cap : Nat) (zs : List Int) : Prop := zs.length = len ∧ len ≤ maxLen ∧ RdN w a zs
theorem RdN.below {w w' : World} {a : Option Addr} {zs : List Int} (h : RdN w a zs) (hb : Below w.heap.size w w') : RdN w' a zs := by
  intro i hi
  obtain ⟨b, off, e, h0⟩ := h i hi
  refine ⟨b, off, e, ?_⟩
  rw [hb.cell (World.block_lt_of_cell? w _ h0)]; exact h0
theorem RdN.heap {w w' : World} {a : Option Addr} {zs : List Int} (h : RdN w a zs) (hb : w'.heap = w.heap) : RdN w' a zs := by
  intro i hi
  obtain ⟨b, off, e, h0⟩ := h i hi
  exact ⟨b, off, e, by rw [show ∀ p, w'.cell? p = w.cell? p from fun p => by simp [World.cell?, hb]]; exact h0⟩
theorem RdN.nil (w : World) (a : Option Addr) : RdN w a [] := fun i hi => absurd hi (Nat.not_lt_zero _)
theorem int_cells {H : Type} {enc : TypeId × Value → H} {w : World} {base : Nat} {spare : Nat → Bool} {held : Bool} {n : Nat} {cs : List Value} {x : DataW H × List MemPlace}
    (h : DataW.trod enc Try.prog w base spare held n 3 cs = some x) : ∃ K, cs = [.int .i64 K] := by
  obtain ⟨K, eK, _, _⟩ := DataW.trod_int Try.underlying3 h
  exact ⟨K, eK⟩
theorem ints_in {H : Type} {enc : TypeId × Value → H} {w : World} {spare : Nat → Bool} {held : Bool} {n : Nat} {v : Value} {x : DataW H × List MemPlace}
    (h : DataW.trod enc Try.prog w 0 spare held n 22 [v] = some x) : ∃ a len cap zs, v = .slice a len cap ∧ IsInts w a len cap zs := by
  have hc : Try.prog.cellsOf 3 = 1 := by kernel_rfl
  rcases open_slice Try.underlying22 h with ⟨h0, _⟩ | ⟨a, len, cap, m, n', D, Pl, h0, hb, hl, hm, hmm, _, hx⟩
  · simp only [List.cons.injEq, and_true] at h0
    exact ⟨none, 0, 0, [], h0, rfl, Nat.zero_le _, RdN.nil _ _⟩
  · simp only [List.cons.injEq, and_true] at h0
    have hlm : len ≤ m := by rw [hmm]; split <;> omega
    obtain ⟨F, hF⟩ := choose_lt (α := Int) (n := len) (p := fun i v => w.cells? 0 (a.add (i * 1)) 1 = some [.int .i64 v]) (fun i hi => by
      obtain ⟨cs', h1, h2⟩ := hx i (by omega)
      rw [hc] at h1
      obtain ⟨K, rfl⟩ := int_cells h2
      exact ⟨K, h1⟩)
    refine ⟨some a, len, cap, (List.range len).map F, h0, by simp, Nat.le_trans hl hm, fun i hi => ?_⟩
    have hi2 : i < len := by simpa using hi
    obtain ⟨_, _, hcell⟩ := World.cells?_some (hF i hi2)
    obtain ⟨b, off, spot⟩ := a
    have e0 := hcell 0 (by omega)
    rw [add_add] at e0
    have hs : spot = none := by
      obtain ⟨_, _, hcell0⟩ := World.cells?_some (hF 0 (by omega))
      have e := hcell0 0 (by omega)
      rw [add_add] at e
      simp only [List.getElem?_cons_zero] at e
      simpa [Addr.add] using World.cell?_spot e
    subst hs
    refine ⟨b, off, rfl, ?_⟩
    rw [zAt_in hi]
    simp only [List.getElem_map, List.getElem_range]
    rw [Addr.add_lit] at e0
    simpa using e0

set_option maxHeartbeats 1600000 in
theorem szIntS_any (a : Option Addr) (n cap : Nat) (left : Int) (w : World) (hm : n ≤ maxLen) (h0 : 0 ≤ left) (h1 : left ≤ 1048576) :
    Calls Try.prog 46 #[.slice a n cap, .int .i64 left] w fun e w' => (∃ r, e = .returned (.int .i64 r) ∧ (r = -1 ∨ (0 ≤ r ∧ r + (n : Int) ≤ left))) ∧ Below w.heap.size w w' := by
  unfold maxLen at hm
  by_cases h2 : left - (n : Int) < 0
  · go_enter Try.func46, Try.ntmps46
    go_wp2
    go_ret
    exact ⟨⟨-1, rfl, .inl rfl⟩, Below.refl _ _⟩
  · go_enter Try.func46, Try.ntmps46
    go_wp2
    go_ret
    exact ⟨⟨left - n, rfl, .inr ⟨by omega, by omega⟩⟩, Below.refl _ _⟩

theorem valsN_part {zs : List Int} {k : Nat} (h : k < zs.length) : (valsN (partK zs 0 k)).set k (.int .i64 (zAt zs k)) = valsN (partK zs 0 (k + 1)) := by
  rw [← partK_set h]
  have e : eAt zs k = zAt zs k := rfl
  rw [e]
  simp [valsN, List.map_set]
theorem infoInt : (Try.prog.info? 3).map (fun i => (i.zero, i.size, i.bytes)) = some (some (.int .i64 0), 1, 8) := by kernel_rfl
set_option maxHeartbeats 1600000 in
theorem toIntS_at (a : Option Addr) (n cap : Nat) (zs : List Int) (w : World) (hr : RdN w a zs) (hz : zs.length = n) (hn : n ≤ 1048576) :
    Calls Try.prog 21 #[.slice a n cap] w fun e w' =>
      e = .returned (.slice (some ⟨w.heap.size, 0, none⟩) n n) ∧ w'.ownsRow w.heap.size 3 1 (.slice (some ⟨w.heap.size, 0, none⟩) n n) n (valsN zs) ∧ Below w.heap.size w w' := by
  obtain ⟨i0, hi, hz0, hz1, hz2⟩ := info_parts infoInt
  have HN := hide hz
  clear hz
  have hmade : (madeCells #[.int .i64 0] n).toList = valsN (List.replicate n 0) := by
    apply List.ext_getElem?
    intro j
    by_cases hj : j < n
    · simp [madeCells, valsN, hj, Nat.mod_one]
    · simp [madeCells, valsN, hj]
  go_enter Try.func21, Try.ntmps21
  go_wp2_with (at_make; refine wpList_make_full _ rfl _ _ 22 rfl w.heap.size 3 i0 (.int .i64 0) 1 Try.underlying22 hi hz0 hz1 _ _ _ _ n rfl rfl (by omega) (by omega) ?b2 ?b3 (Nat.le_refl _) ?_)
  case b2 => rw [hz2]; omega
  case b3 => unfold maxLen; omega
  intro w0 hown0 hgrow0
  have hown0' : w0.ownsRow w.heap.size 3 1 (.slice (some ⟨w.heap.size, 0, none⟩) n n) n (valsN (partK zs 0 0)) := by
    rw [partK_zero, HN.out]
    exact hown0
  clear hown0 hmade
  go_wp2
  go_loopw [4] (fun i wr => ∃ k : Nat, k ≤ n ∧ i = .int .i64 k ∧ wr.ownsRow w.heap.size 3 1 (.slice (some ⟨w.heap.size, 0, none⟩) n n) n (valsN (partK zs 0 k)) ∧ Below w.heap.size w wr)
    (fun i _ => n - (intOf i).toNat)
  case atStart => exact ⟨0, Nat.zero_le _, rfl, hown0', (Below.refl _ _).grown hgrow0 (Nat.le_refl _) (fun k h => by cases h)⟩
  case round =>
    obtain ⟨k, hk, rfl, hown, hbel⟩ := hrel
    by_cases hlt : k < n
    · obtain ⟨b, off, hab, hbw, hc⟩ := hr.open (by rw [HN.out]; omega)
      have c0 := hc k (by rw [HN.out]; exact hlt)
      clear hc
      subst hab
      rw [← hbel.cell (p := ⟨b, off + k, none⟩) hbw] at c0
      have hlen : (valsN (partK zs 0 k)).length = n := by rw [valsN_length, partK_length (by rw [HN.out]; omega), HN.out]
      obtain ⟨u0, m0⟩ : ∃ u, wr.cell? ⟨w.heap.size, k, none⟩ = some u := by
        rw [hown.cellAt k (by omega), List.getElem?_eq_getElem (by omega)]
        exact ⟨_, rfl⟩
      have f0 := hown.frozenAt k
      have HO := hide (hown.stored k (.int .i64 (zAt zs k))).1
      have HB : Hid (Below w.heap.size w (wr.setCell ⟨w.heap.size, k, none⟩ (.int .i64 (zAt zs k)))) := hbel.setCell (Nat.le_refl _) _
      rw [valsN_part (by rw [HN.out]; exact hlt)] at HO
      clear hlen hown hbel
      go_wp2
      go_roundw
      case rel => exact ⟨k + 1, by omega, by go_num, HO.out, HB.out⟩
      case measure => simp [intOf]; omega
    · have HE : Hid (wr.ownsRow w.heap.size 3 1 (.slice (some ⟨w.heap.size, 0, none⟩) n n) n (valsN zs)) := by
        have hkn : k = zs.length := by rw [HN.out]; omega
        rw [hkn, partK_end] at hown
        exact hown
      clear hown
      go_wp2
      go_ret
      exact ⟨rfl, HE.out, hbel⟩
end Go.Proofs.Ytfgigcdfmkfkjaa
/-
  What BindsFor answers, plainly: the items of these numbers bind, one behind the other, by the patterns that are not Not (goB).
-/
namespace Go.Proofs.Ytfgigcdfmkfkjaa
open Go.RowKit
set_option linter.unusedVariables false

def goB (J : List P4) : List PE → List Int → List B4 → Option (List B4)
  | [], [], M => some M
  | [], _ :: _, _ => none
  | _ :: _, [], _ => none
  | p :: r, z :: zs, M => match facP J z with
    | none => none
    | some f => if (matchR p.kd f.1 p.L f.2 M).2 = true then goB J r zs (matchR p.kd f.1 p.L f.2 M).1 else none
def ansB : Option (List B4) → List B4 × Bool
  | some M => (M, true)
  | none => ([], false)
theorem goB_len {J : List P4} : ∀ {P : List PE} {zs : List Int} {M : List B4}, P.length ≠ zs.length → goB J P zs M = none
  | [], [], _, h => absurd rfl h
  | [], _ :: _, _, _ => rfl
  | _ :: _, [], _, _ => rfl
  | p :: r, z :: zs, M, h => by
    rw [goB]
    cases facP J z with
    | none => rfl
    | some f =>
      simp only
      split
      · exact goB_len (by simpa using h)
      · rfl
theorem goB_nofact {J : List P4} {P : List PE} {zs : List Int} {M : List B4} {k : Nat} (hp : k < P.length) (hz : k < zs.length) (h : facP J (zAt zs k) = none) : goB J (P.drop k) (zs.drop k) M = none := by
  rw [List.drop_eq_getElem_cons hp, List.drop_eq_getElem_cons hz, goB, ← zAt_in hz, h]
theorem goB_no {J : List P4} {P : List PE} {zs : List Int} {M : List B4} {k : Nat} {f : ByteArray × List V3} (hp : k < P.length) (hz : k < zs.length) (h : facP J (zAt zs k) = some f) (hm : (matchR (eAt P k).kd f.1 (eAt P k).L f.2 M).2 = false) : goB J (P.drop k) (zs.drop k) M = none := by
  rw [List.drop_eq_getElem_cons hp, List.drop_eq_getElem_cons hz, goB, ← zAt_in hz, h]
  simp only
  rw [← eAt_in hp, if_neg (by rw [hm]; simp)]
theorem goB_step {J : List P4} {P : List PE} {zs : List Int} {M : List B4} {k : Nat} {f : ByteArray × List V3} (hp : k < P.length) (hz : k < zs.length) (h : facP J (zAt zs k) = some f) (hm : (matchR (eAt P k).kd f.1 (eAt P k).L f.2 M).2 = true) : goB J (P.drop k) (zs.drop k) M = goB J (P.drop (k + 1)) (zs.drop (k + 1)) (matchR (eAt P k).kd f.1 (eAt P k).L f.2 M).1 := by
  rw [List.drop_eq_getElem_cons hp, List.drop_eq_getElem_cons hz, goB, ← zAt_in hz, h]
  simp only
  rw [← eAt_in hp, if_pos hm]
theorem goB_end {J : List P4} {P : List PE} {zs : List Int} {M : List B4} {k : Nat} (hp : k = P.length) (hz : k = zs.length) : goB J (P.drop k) (zs.drop k) M = some M := by
  have e1 : P.drop k = [] := by rw [hp, List.drop_length]
  have e2 : zs.drop k = [] := by rw [hz, List.drop_length]
  rw [e1, e2, goB]
theorem goB_short {J : List P4} {P : List PE} {zs : List Int} {M : List B4} {k : Nat} (hp : k < P.length) (hz : zs.length ≤ k) : goB J (P.drop k) (zs.drop k) M = none := by
  rw [List.drop_eq_getElem_cons hp, List.drop_eq_nil_of_le hz, goB]
/-- how many more may be bound by what is left -/
def leftL (P : List PE) : Nat := (P.map (fun p => p.L.length)).sum
theorem leftL_drop {P : List PE} {k : Nat} (h : k < P.length) : leftL (P.drop k) = (eAt P k).L.length + leftL (P.drop (k + 1)) := by
  unfold leftL
  rw [List.drop_eq_getElem_cons h, eAt_in h, List.map_cons, List.sum_cons]
theorem leftL_le (P : List PE) : leftL P ≤ (P.map PE.sz).sum := by
  induction P with
  | nil => simp [leftL]
  | cons p r ih =>
    unfold leftL at *
    simp only [List.map_cons, List.sum_cons]
    unfold PE.sz at *
    omega
theorem leftL_posB (P : List PE) : leftL (posB P) ≤ leftL P := by
  induction P with
  | nil => simp [leftL, posB]
  | cons p r ih =>
    unfold posB at *
    rw [List.filter_cons]
    split
    · simp only [leftL, List.map_cons, List.sum_cons] at *; omega
    · simp only [leftL, List.map_cons, List.sum_cons] at *; omega
theorem matchR_le (kd kd' : ByteArray) (L : List A5) (F : List V3) (M : List B4) : (matchR kd kd' L F M).1.length ≤ M.length + L.length := by
  rcases matchR_cases kd kd' L F M with h | ⟨-, -, M', h1, h2⟩
  · rw [h]; exact Nat.le_add_right _ _
  · rw [h2]; exact matchK_len h1
theorem facP_in {id : Int} : ∀ {J : List P4} {f : ByteArray × List V3}, facP J id = some f → ∃ x ∈ J, x.kd = f.1 ∧ x.L = f.2
  | [], f, h => by simp [facP] at h
  | x :: r, f, h => by
    unfold facP at h
    split at h
    · simp only [Option.some.injEq] at h
      exact ⟨x, List.mem_cons_self, by rw [← h], by rw [← h]⟩
    · obtain ⟨y, hy, h1⟩ := facP_in h
      exact ⟨y, List.mem_cons_of_mem _ hy, h1⟩
theorem posB_drop {P : List PE} {i : Nat} (h : i < P.length) : posB (P.drop i) = if (eAt P i).nt = true then posB (P.drop (i + 1)) else eAt P i :: posB (P.drop (i + 1)) := by
  unfold posB
  rw [List.drop_eq_getElem_cons h, List.filter_cons, eAt_in h]
  cases (P[i]).nt <;> simp
/-- the same plainly -/
theorem goB_pl (J : List P4) : ∀ {P Q : List PE}, P.map PE.pl = Q.map PE.pl → ∀ (zs : List Int) (M : List B4), goB J P zs M = goB J Q zs M
  | [], [], _, _, _ => rfl
  | [], _ :: _, h, _, _ => by simp at h
  | _ :: _, [], h, _, _ => by simp at h
  | p :: r, q :: s, h, [], M => rfl
  | p :: r, q :: s, h, z :: zs, M => by
    simp only [List.map_cons, List.cons.injEq] at h
    obtain ⟨e1, e2, -⟩ := PE.pl_inj h.1
    rw [goB, goB]
    cases facP J z with
    | none => rfl
    | some f => simp only [e1, e2, goB_pl J h.2]
end Go.Proofs.Ytfgigcdfmkfkjaa
/-
  What both BindOfs answer: bindA.
-/
namespace Go.Proofs.Ytfgigcdfmkfkjaa
open Go.RowKit
set_option linter.unusedVariables false

theorem beq_ne {a b : ByteArray} (h : a ≠ b) : (a.toList == b.toList) = false := by
  simp only [beq_eq_false_iff_ne, ne_eq]
  exact fun e => h (toList_inj e)

set_option maxRecDepth 100000 in
set_option maxHeartbeats 1600000 in
theorem specBindOf_any (a : Option Addr) (cap : Nat) (L : List B4) (nm : ByteArray) (w : World) (hr : RdBind w a L) (hm : L.length ≤ 2097152) :
    Calls Try.prog 93 #[.slice a L.length cap, .string nm] w fun e w' => e = .returned (bindA (bindO L nm)) ∧ Below w.heap.size w w' := by
  obtain ⟨n, hN⟩ : ∃ n, n = L.length := ⟨_, rfl⟩
  rw [← hN] at hm ⊢
  have HN := hide hN
  clear hN
  have b0 := below_al w (.cells #[.int .i64 0, .int .i64 0, .string ⟨#[]⟩] 105)
  have HR := hide (boxk_new w #[.int .i64 0, .int .i64 0, .string ⟨#[]⟩] 105)
  have r1 := hr.below b0
  go_enter Try.func93, Try.ntmps93
  go_wp2
  generalize w.alloc (.cells #[.int .i64 0, .int .i64 0, .string ⟨#[]⟩] 105) = w0 at b0 HR r1
  obtain ⟨r0, rr1, rr2, rf0, rf1, rf2⟩ := box_cell HR.out
  go_loop [6] (fun i => ∃ (k : Nat), k ≤ n ∧ i = .int .i64 k ∧ (∀ j, j < k → (eAt L j).N ≠ nm)) (fun i => n - (intOf i).toNat)
  case atStart => exact ⟨0, Nat.zero_le _, rfl, fun j hj => absurd hj (Nat.not_lt_zero _)⟩
  case round =>
    obtain ⟨k, hk, rfl, hall⟩ := hrel
    have HA := hide hall
    clear hall
    by_cases hlt : k < n
    · obtain ⟨b, off, hab, hbw, hc⟩ := RdBind.cells r1 (by rw [← HN.out]; omega)
      obtain ⟨c0, c1, c2, c3⟩ := hc k (by rw [← HN.out]; exact hlt)
      clear hc
      subst hab
      by_cases he : (eAt L k).N = nm
      · have HV := hide (bindO_at (by rw [← HN.out]; exact hlt) HA.out he)
        rw [he] at c0
        have k1 : (nm.toList == nm.toList) = true := by simp
        clear he
        go_wp2
        refine box_post HR.out (fun w4 h4 gr => ?_)
        obtain ⟨d0, d1, d2, -, -, -⟩ := box_cell h4
        exact bodyPost_ret (v := bindA (some (eAt L k).V)) (by simp [bindA, results, Try.results93, go_sem, d0, d1, d2]) rfl ⟨by rw [HV.out], below_set b0 gr (Nat.le_refl _)⟩
      · have k1 := beq_ne he
        have HE := hide he
        clear he
        go_wp2
        go_round
        case rel => exact ⟨k + 1, by omega, by go_num, fun j hj => by
            by_cases hjk : j = k
            · rw [hjk]; exact HE.out
            · exact HA.out j (by omega)⟩
        case measure => simp [intOf]; omega
    · have HV : Hid (bindO L nm = none) := bindO_none (fun j hj => HA.out j (by rw [← HN.out] at hj; omega))
      go_wp2
      refine box_post HR.out (fun w4 h4 gr => ?_)
      obtain ⟨d0, d1, d2, -, -, -⟩ := box_cell h4
      exact bodyPost_ret (v := bindA none) (by simp [bindA, results, Try.results93, go_sem, d0, d1, d2]) rfl ⟨by rw [HV.out], below_set b0 gr (Nat.le_refl _)⟩

set_option maxRecDepth 100000 in
set_option maxHeartbeats 1600000 in
theorem implBindOf_any (a : Option Addr) (cap : Nat) (L : List B4) (nm : ByteArray) (w : World) (hr : RdBind w a L) (hs : ∀ x ∈ L, x.small) (hm : L.length ≤ 2097152) :
    Calls Try.prog 154 #[.slice a L.length cap, .string nm] w fun e w' => e = .returned (bindA (bindO L nm)) ∧ Below w.heap.size w w' := by
  obtain ⟨n, hN⟩ : ∃ n, n = L.length := ⟨_, rfl⟩
  rw [← hN] at hm ⊢
  have HN := hide hN
  have HS := hide hs
  clear hN hs
  have b0 := below_al w (.cells #[.int .i64 0, .int .i64 0, .string ⟨#[]⟩] 105)
  have HR := hide (boxk_new w #[.int .i64 0, .int .i64 0, .string ⟨#[]⟩] 105)
  have r1 := hr.below b0
  go_enter Try.func154, Try.ntmps154
  go_wp2
  generalize hW : w.alloc (.cells #[.int .i64 0, .int .i64 0, .string ⟨#[]⟩] 105) = w0 at b0 HR r1
  have hq : w.heap.size < w0.heap.size := by rw [← hW]; simp
  clear hW hr
  go_loopw [10] (fun i wr => ∃ (k : Nat), k ≤ n ∧ i = .int .i64 k ∧ (∀ j, j < k → (eAt L j).N ≠ nm) ∧ Below w0.heap.size w0 wr) (fun i _ => n - (intOf i).toNat)
  case atStart => exact ⟨0, Nat.zero_le _, rfl, fun j hj => absurd hj (Nat.not_lt_zero _), Below.refl _ _⟩
  case round =>
    obtain ⟨k, hk, rfl, hall, hbel⟩ := hrel
    have HA := hide hall
    clear hall
    have hB : Below w.heap.size w wr := b0.trans (hbel.mono b0.size)
    have HR1 := hide (box_below HR.out hbel hq)
    by_cases hlt : k < n
    · obtain ⟨b, off, hab, hbw, hc⟩ := RdBind.cells r1 (by rw [← HN.out]; omega)
      obtain ⟨c0, c1, c2, c3⟩ := hc k (by rw [← HN.out]; exact hlt)
      clear hc
      subst hab
      rw [← hbel.cell (p := ⟨b, off + k * 4, none⟩) hbw] at c0
      rw [← hbel.cell (p := ⟨b, off + k * 4 + 1, none⟩) hbw] at c1
      rw [← hbel.cell (p := ⟨b, off + k * 4 + 2, none⟩) hbw] at c2
      rw [← hbel.cell (p := ⟨b, off + k * 4 + 3, none⟩) hbw] at c3
      have hS : (eAt L k).small := by rw [eAt_in (by rw [← HN.out]; exact hlt)]; exact HS.out _ (List.getElem_mem _)
      by_cases he : (eAt L k).N = nm
      · have HV := hide (bindO_at (by rw [← HN.out]; exact hlt) HA.out he)
        rw [he] at c0
        have k1 : (nm.toList == nm.toList) = true := by simp
        clear he
        go_wp2_with fail
        refine (copyVal_any _ _ _ _ (by have := hS.2; omega)).mono ?_
        rintro e w2 ⟨rfl, hb2⟩
        have hqr := hbel.size
        have bA := hB.alloc hB.size (.cells #[.string nm, .int .i64 (eAt L k).V.K, .int .i64 (eAt L k).V.N, .string (eAt L k).V.S] 107)
        have HR2 := hide (box_below (box_old HR1.out (by omega) (.cells #[.string nm, .int .i64 (eAt L k).V.K, .int .i64 (eAt L k).V.N, .string (eAt L k).V.S] 107)) hb2 (by simp; omega))
        have B2 := bA.trans (hb2.mono bA.size)
        obtain ⟨q0, q1, q2, qf0, qf1, qf2⟩ := box_cell HR2.out
        clear hb2 bA c0 c1 c2 c3 hbel hB HR1
        go_wp2
        refine box_post HR2.out (fun w4 h4 gr => ?_)
        obtain ⟨d0, d1, d2, -, -, -⟩ := box_cell h4
        exact bodyPost_ret (v := bindA (some (eAt L k).V)) (by simp [bindA, results, Try.results154, go_sem, d0, d1, d2]) rfl ⟨by rw [HV.out], below_set B2 gr (Nat.le_refl _)⟩
      · have k1 := beq_ne he
        have HE := hide he
        clear he
        go_wp2
        go_roundw
        case rel => exact ⟨k + 1, by omega, by go_num, fun j hj => by
            by_cases hjk : j = k
            · rw [hjk]; exact HE.out
            · exact HA.out j (by omega), hbel.alloc hbel.size _⟩
        case measure => simp [intOf]; omega
    · have HV : Hid (bindO L nm = none) := bindO_none (fun j hj => HA.out j (by rw [← HN.out] at hj; omega))
      obtain ⟨q0, q1, q2, qf0, qf1, qf2⟩ := box_cell HR1.out
      go_wp2
      refine box_post HR1.out (fun w4 h4 gr => ?_)
      obtain ⟨d0, d1, d2, -, -, -⟩ := box_cell h4
      exact bodyPost_ret (v := bindA none) (by simp [bindA, results, Try.results154, go_sem, d0, d1, d2]) rfl ⟨by rw [HV.out], below_set hB gr (Nat.le_refl _)⟩
end Go.Proofs.Ytfgigcdfmkfkjaa
/-
  The contracts of the laws' own helpers on Binds: to copies, sz counts off, eq finds one the same as itself; so of rows of them.
-/
namespace Go.Proofs.Ytfgigcdfmkfkjaa
open Go.RowKit
set_option linter.unusedVariables false

theorem Try.info107 : (Try.prog.info? 107).map (fun i => (i.zero, i.size, i.bytes)) = some (some (.agg #[.string ⟨#[]⟩, .int .i64 0, .int .i64 0, .string ⟨#[]⟩]), 4, 48) := by kernel_rfl

set_option maxRecDepth 100000 in
set_option maxHeartbeats 1600000 in
theorem toBind_any (N : ByteArray) (VK : Int) (VN : Int) (VS : ByteArray) (w : World) :
    Calls Try.prog 75 #[.agg #[.string N, .int .i64 VK, .int .i64 VN, .string VS]] w fun e w' => e = .returned (.agg #[.string N, .int .i64 VK, .int .i64 VN, .string VS]) ∧ Below w.heap.size w w' := by
  go_enter Try.func75, Try.ntmps75
  go_wp2_with fail
  have b0 := below_al w (.cells #[.string N, .int .i64 VK, .int .i64 VN, .string VS] 120)
  have b1 := b0.alloc b0.size (.cells #[.string ⟨#[]⟩, .int .i64 0, .int .i64 0, .string ⟨#[]⟩] 107)
  have b2 := b1.alloc b1.size (.cells #[.string N, .int .i64 0, .int .i64 0, .string ⟨#[]⟩] 107)
  have hR := box_old (boxk_new (w.alloc (.cells #[.string N, .int .i64 VK, .int .i64 VN, .string VS] 120)) #[.string ⟨#[]⟩, .int .i64 0, .int .i64 0, .string ⟨#[]⟩] 107) (by simp) (.cells #[.string N, .int .i64 0, .int .i64 0, .string ⟨#[]⟩] 107)
  have hX := boxk_new ((w.alloc (.cells #[.string N, .int .i64 VK, .int .i64 VN, .string VS] 120)).alloc (.cells #[.string ⟨#[]⟩, .int .i64 0, .int .i64 0, .string ⟨#[]⟩] 107)) #[.string N, .int .i64 0, .int .i64 0, .string ⟨#[]⟩] 107
  simp only [World.size_alloc] at hR hX
  refine (toVal_any VK VN VS _).mono ?_
  rintro e w1 ⟨rfl, hb⟩
  have HR := hide (box_below hR hb (by simp))
  have HX := hide (box_below hX hb (by simp))
  have hB : Below w.heap.size w w1 := b2.trans (hb.mono b2.size)
  clear hb hR hX b0 b1 b2
  have x0 := boxk_cell HX.out 0 _ rfl
  have xf0 := boxk_frozen HX.out 0
  have r0 := boxk_cell HR.out 0 _ rfl
  have rf0 := boxk_frozen HR.out 0
  have x1 := boxk_cell HX.out 1 _ rfl
  have xf1 := boxk_frozen HX.out 1
  have r1 := boxk_cell HR.out 1 _ rfl
  have rf1 := boxk_frozen HR.out 1
  have x2 := boxk_cell HX.out 2 _ rfl
  have xf2 := boxk_frozen HX.out 2
  have r2 := boxk_cell HR.out 2 _ rfl
  have rf2 := boxk_frozen HR.out 2
  have x3 := boxk_cell HX.out 3 _ rfl
  have xf3 := boxk_frozen HX.out 3
  have r3 := boxk_cell HR.out 3 _ rfl
  have rf3 := boxk_frozen HR.out 3
  have HX2 := hide (boxk_set HX.out 1 (.int .i64 VK))
  have HX3 := hide (boxk_set HX2.out.1 2 (.int .i64 VN))
  have HX4 := hide (boxk_set HX3.out.1 3 (.string VS))
  have HR2 := hide (box_gr (box_gr (box_gr HR.out HX2.out.2 (by omega)) HX3.out.2 (by omega)) HX4.out.2 (by omega))
  have HB2 := hide (below_set (below_set (below_set hB HX2.out.2 (by omega)) HX3.out.2 (by omega)) HX4.out.2 (by omega))
  go_wp2
  refine box4_post HR2.out (fun w4 h4 gr => ?_)
  clear x0 xf0 r0 rf0 x1 xf1 r1 rf1 x2 xf2 r2 rf2 x3 xf3 r3 rf3
  have c0 := boxk_cell h4 0 _ rfl
  have c1 := boxk_cell h4 1 _ rfl
  have c2 := boxk_cell h4 2 _ rfl
  have c3 := boxk_cell h4 3 _ rfl
  exact bodyPost_ret (v := .agg #[.string N, .int .i64 VK, .int .i64 VN, .string VS]) (by simp [results, Try.results75, go_sem, c0, c1, c2, c3]) rfl ⟨rfl, below_set HB2.out gr (by omega)⟩

set_option maxRecDepth 100000 in
set_option maxHeartbeats 1600000 in
theorem szBind_any (N : ByteArray) (VK : Int) (VN : Int) (VS : ByteArray) (left : Int) (w : World) (hs : N.size ≤ maxLen) (hv : VS.size ≤ maxLen) (h0 : 0 ≤ left) (h1 : left ≤ 1048576) :
    Calls Try.prog 74 #[.agg #[.string N, .int .i64 VK, .int .i64 VN, .string VS], .int .i64 left] w fun e w' =>
      (∃ r, e = .returned (.int .i64 r) ∧ (r = -1 ∨ (0 ≤ r ∧ r + (N.size : Int) + (VS.size : Int) ≤ left))) ∧ Below w.heap.size w w' := by
  have hs0 := hs
  unfold maxLen at hs
  by_cases h2 : left - (N.size : Int) < 0
  · go_enter Try.func74, Try.ntmps74
    go_wp2
    go_ret
    exact ⟨⟨-1, rfl, .inl rfl⟩, by go_grown⟩
  · go_enter Try.func74, Try.ntmps74
    go_wp2_with fail
    have b0 := below_al w (.cells #[.string N, .int .i64 VK, .int .i64 VN, .string VS] 120)
    refine (szVal_any VK VN VS (left - (N.size : Int)) _ hv (by omega) (by omega)).mono ?_
    rintro e w1 ⟨rfl, hb1⟩
    have hB1 : Below w.heap.size w w1 := b0.trans (hb1.mono b0.size)
    clear hb1 b0
    by_cases h3 : left - (N.size : Int) - (VS.size : Int) < 0
    · rw [if_pos h3]
      go_wp2
      go_ret
      exact ⟨⟨-1, rfl, .inl rfl⟩, hB1⟩
    · rw [if_neg h3]
      go_wp2
      go_ret
      exact ⟨⟨_, rfl, .inr ⟨by omega, by omega⟩⟩, hB1⟩

set_option maxRecDepth 100000 in
set_option maxHeartbeats 1600000 in
theorem eqBind_same (N : ByteArray) (VK : Int) (VN : Int) (VS : ByteArray) (w : World) :
    Calls Try.prog 64 #[.agg #[.string N, .int .i64 VK, .int .i64 VN, .string VS], .agg #[.string N, .int .i64 VK, .int .i64 VN, .string VS]] w fun e w' => e = .returned (.bool true) ∧ Below w.heap.size w w' := by
  have kN : (N.toList == N.toList) = true := by simp
  go_enter Try.func64, Try.ntmps64
  go_wp2_with fail
  have b0 := below_al w (.cells #[.string N, .int .i64 VK, .int .i64 VN, .string VS] 107)
  have b1 := b0.alloc b0.size (.cells #[.string N, .int .i64 VK, .int .i64 VN, .string VS] 107)
  refine (eqVal_same VK VN VS _).mono ?_
  rintro e w1 ⟨rfl, hb⟩
  have hB : Below w.heap.size w w1 := b1.trans (hb.mono b1.size)
  go_wp2
  go_ret
  exact ⟨rfl, hB⟩

set_option maxRecDepth 100000 in
set_option maxHeartbeats 1600000 in
theorem toBindS_at (a : Option Addr) (cap : Nat) (L : List B4) (w : World) (hr : RdBind w a L) (hn : L.length ≤ 1048576) :
    Calls Try.prog 34 #[.slice a L.length cap] w fun e w' =>
      e = .returned (.slice (some ⟨w.heap.size, 0, none⟩) L.length L.length) ∧ w'.ownsRow w.heap.size 107 4 (.slice (some ⟨w.heap.size, 0, none⟩) L.length L.length) L.length (rowOf B4.cs L) ∧ Below w.heap.size w w' := by
  obtain ⟨i0, hi, hz0, hz1, hz2⟩ := info_parts Try.info107
  obtain ⟨n, hN⟩ : ∃ n, n = L.length := ⟨_, rfl⟩
  rw [← hN] at hn ⊢
  have HN := hide hN
  clear hN
  have hmade := rowOf_made (f := B4.cs) (x := B4.zero) (cs := #[.string ⟨#[]⟩, .int .i64 0, .int .i64 0, .string ⟨#[]⟩]) rfl (by decide) n
  go_enter Try.func34, Try.ntmps34
  go_wp2_with (at_make; refine wpList_make_full _ rfl _ _ 28 rfl w.heap.size 107 i0 (.agg #[.string ⟨#[]⟩, .int .i64 0, .int .i64 0, .string ⟨#[]⟩]) 4 Try.underlying28 hi hz0 hz1 _ _ _ _ n rfl rfl (by omega) (by omega) ?b2 ?b3 (Nat.le_refl _) ?_)
  case b2 => rw [hz2]; omega
  case b3 => unfold maxLen; omega
  intro w0 hown0 hgrow0
  have hown0' : w0.ownsRow w.heap.size 107 4 (.slice (some ⟨w.heap.size, 0, none⟩) n n) n (rowOf B4.cs (List.replicate n B4.zero)) := by rw [← hmade]; exact hown0
  clear hown0 hmade
  go_wp2
  go_loopw [4] (fun i wr => ∃ k : Nat, k ≤ n ∧ i = .int .i64 k ∧ wr.ownsRow w.heap.size 107 4 (.slice (some ⟨w.heap.size, 0, none⟩) n n) n (rowOf B4.cs (partK L B4.zero k)) ∧ Below w.heap.size w wr)
    (fun i _ => n - (intOf i).toNat)
  case atStart =>
    refine ⟨0, Nat.zero_le _, rfl, ?_, (Below.refl _ _).grown hgrow0 (Nat.le_refl _) (fun k h => by cases h)⟩
    rw [partK_zero, ← HN.out]
    exact hown0'
  case round =>
    obtain ⟨k, hk, rfl, hown, hbel⟩ := hrel
    by_cases hlt : k < n
    · obtain ⟨b, off, hab, hbw, hc⟩ := RdBind.cells hr (by rw [← HN.out]; omega)
      obtain ⟨c0, c1, c2, c3⟩ := hc k (by rw [← HN.out]; exact hlt)
      clear hc
      subst hab
      rw [← hbel.cell (p := ⟨b, off + k * 4, none⟩) hbw] at c0
      rw [← hbel.cell (p := ⟨b, off + k * 4 + 1, none⟩) hbw] at c1
      rw [← hbel.cell (p := ⟨b, off + k * 4 + 2, none⟩) hbw] at c2
      rw [← hbel.cell (p := ⟨b, off + k * 4 + 3, none⟩) hbw] at c3
      go_wp2_with fail
      refine (toBind_any _ _ _ _ _).mono ?_
      rintro e w2 ⟨rfl, hb2⟩
      have hown2 : w2.ownsRow w.heap.size 107 4 (.slice (some ⟨w.heap.size, 0, none⟩) n n) n (rowOf B4.cs (partK L B4.zero k)) := ownsRow_below' hown hb2
      have hbel2 : Below w.heap.size w w2 := hbel.trans (hb2.mono hbel.size)
      have hlen : (rowOf B4.cs (partK L B4.zero k)).length = n * 4 := by rw [rowOf_length B4.len, partK_length (by rw [← HN.out]; omega), ← HN.out]
      have hmem : ∀ j, j < 4 → ∃ u, w2.cell? ⟨w.heap.size, k * 4 + j, none⟩ = some u := fun j hj => by
        rw [hown2.cellAt (k * 4 + j) (by omega), List.getElem?_eq_getElem (by omega)]
        exact ⟨_, rfl⟩
      obtain ⟨u0, m0⟩ := hmem 0 (by omega)
      obtain ⟨u1, m1⟩ := hmem 1 (by omega)
      obtain ⟨u2, m2⟩ := hmem 2 (by omega)
      obtain ⟨u3, m3⟩ := hmem 3 (by omega)
      rw [Nat.add_zero] at m0
      have f0 := hown2.frozenAt (k * 4)
      have f1 := hown2.frozenAt (k * 4 + 1)
      have f2 := hown2.frozenAt (k * 4 + 2)
      have f3 := hown2.frozenAt (k * 4 + 3)
      have HO := hide ((((hown2.stored (k * 4) (.string (eAt L k).N)).1.stored (k * 4 + 1) (.int .i64 (eAt L k).V.K)).1.stored (k * 4 + 2) (.int .i64 (eAt L k).V.N)).1.stored (k * 4 + 3) (.string (eAt L k).V.S)).1
      have HB : Hid (Below w.heap.size w ((((w2.setCell ⟨w.heap.size, k * 4, none⟩ (.string (eAt L k).N)).setCell ⟨w.heap.size, k * 4 + 1, none⟩ (.int .i64 (eAt L k).V.K)).setCell ⟨w.heap.size, k * 4 + 2, none⟩ (.int .i64 (eAt L k).V.N)).setCell ⟨w.heap.size, k * 4 + 3, none⟩ (.string (eAt L k).V.S))) := ((((hbel2.setCell (Nat.le_refl _) _).setCell (Nat.le_refl _) _).setCell (Nat.le_refl _) _).setCell (Nat.le_refl _) _)
      rw [rowOf_set_B4 (eAt L k) _ k (by rw [partK_length (by rw [← HN.out]; omega), ← HN.out]; exact hlt), partK_set (by rw [← HN.out]; exact hlt)] at HO
      clear hmem hlen c0 c1 c2 c3 hown hbel hb2 hown2 hbel2
      go_wp2
      go_roundw
      case rel => exact ⟨k + 1, by omega, by go_num, HO.out, HB.out⟩
      case measure => simp [intOf]; omega
    · have HE : Hid (wr.ownsRow w.heap.size 107 4 (.slice (some ⟨w.heap.size, 0, none⟩) n n) n (rowOf B4.cs L)) := by
        have hkn : k = L.length := by rw [← HN.out]; omega
        rw [hkn, partK_end] at hown
        exact hown
      clear hown
      go_wp2
      go_ret
      exact ⟨rfl, HE.out, hbel⟩

set_option maxRecDepth 100000 in
set_option maxHeartbeats 1600000 in
theorem szBindS_any (a : Option Addr) (cap : Nat) (L : List B4) (left : Int) (w : World) (hr : RdBind w a L) (hs : ∀ x ∈ L, x.fits) (hm : L.length ≤ maxLen) (h0 : 0 ≤ left) (h1 : left ≤ 1048576) :
    Calls Try.prog 32 #[.slice a L.length cap, .int .i64 left] w fun e w' =>
      (∃ r, e = .returned (.int .i64 r) ∧ (r = -1 ∨ (0 ≤ r ∧ r + (L.length : Int) ≤ left ∧ ∀ x ∈ L, x.small))) ∧ Below w.heap.size w w' := by
  unfold maxLen at hm
  obtain ⟨n, hN⟩ : ∃ n, n = L.length := ⟨_, rfl⟩
  rw [← hN] at hm ⊢
  have HN := hide hN
  have HS := hide hs
  clear hN hs
  by_cases h2 : left - (n : Int) < 0
  · go_enter Try.func32, Try.ntmps32
    go_wp2
    go_ret
    exact ⟨⟨-1, rfl, .inl rfl⟩, Below.refl _ _⟩
  · go_enter Try.func32, Try.ntmps32
    go_wp2
    go_loopw [1, 5] (fun l i wr => ∃ (k : Nat) (lf : Int), k ≤ n ∧ i = .int .i64 k ∧ l = .int .i64 lf ∧ 0 ≤ lf ∧ lf ≤ left - n ∧ (∀ j, j < k → (eAt L j).small) ∧ Below w.heap.size w wr) (fun _ i _ => n - (intOf i).toNat)
    case atStart => exact ⟨0, left - n, Nat.zero_le _, rfl, rfl, by omega, Int.le_refl _, fun j hj => absurd hj (Nat.not_lt_zero _), Below.refl _ _⟩
    case round =>
      obtain ⟨k, lf, hk, rfl, rfl, hlf, hle, hsm, hbel⟩ := hrel
      have HSm := hide hsm
      clear hsm
      by_cases hlt : k < n
      · obtain ⟨b, off, hab, hbw, hc⟩ := RdBind.cells hr (by rw [← HN.out]; omega)
        obtain ⟨c0, c1, c2, c3⟩ := hc k (by rw [← HN.out]; exact hlt)
        clear hc
        subst hab
        rw [← hbel.cell (p := ⟨b, off + k * 4, none⟩) hbw] at c0
        rw [← hbel.cell (p := ⟨b, off + k * 4 + 1, none⟩) hbw] at c1
        rw [← hbel.cell (p := ⟨b, off + k * 4 + 2, none⟩) hbw] at c2
        rw [← hbel.cell (p := ⟨b, off + k * 4 + 3, none⟩) hbw] at c3
        have hS : (eAt L k).fits := by rw [eAt_in (by rw [← HN.out]; exact hlt)]; exact HS.out _ (List.getElem_mem _)
        obtain ⟨hS0, hS1⟩ := hS
        go_wp2_with fail
        refine (szBind_any _ _ _ _ lf _ hS0 hS1 hlf (by omega)).mono ?_
        rintro e w2 ⟨⟨r, rfl, hr2⟩, hb2⟩
        have hbel2 : Below w.heap.size w w2 := hbel.trans (hb2.mono hbel.size)
        clear hb2 c0 c1 c2 c3 hbel
        rcases hr2 with rfl | ⟨h3, h4⟩
        · go_wp2
          go_ret
          exact ⟨⟨-1, rfl, .inl rfl⟩, hbel2⟩
        · have HSk : Hid ((eAt L k).small) := ⟨by omega, by omega⟩
          have h5 : r ≤ lf := by omega
          clear h4
          go_wp2
          go_roundw
          case rel => exact ⟨k + 1, r, by omega, by go_num, rfl, h3, by omega, fun j hj => by
              by_cases hjk : j = k
              · rw [hjk]; exact HSk.out
              · exact HSm.out j (by omega), hbel2⟩
          case measure => simp [intOf]; omega
      · have HAll : Hid (∀ x ∈ L, x.small) := fun x hx => by
          obtain ⟨j, hj, rfl⟩ := List.getElem_of_mem hx
          rw [← eAt_in hj]
          exact HSm.out j (by rw [← HN.out] at hj; omega)
        go_wp2
        go_ret
        exact ⟨⟨lf, rfl, .inr ⟨hlf, by omega, HAll.out⟩⟩, hbel⟩

theorem toBindS_ex (a : Option Addr) (cap : Nat) (L : List B4) (w : World) (hr : RdBind w a L) (hn : L.length ≤ 1048576) :
    Calls Try.prog 34 #[.slice a L.length cap] w fun e w' =>
      ∃ g, e = .returned (.slice (some ⟨g, 0, none⟩) L.length L.length) ∧ w.heap.size ≤ g ∧ OwnBind w' g L.length L ∧ Below w.heap.size w w' :=
  (toBindS_at a cap L w hr hn).mono fun e w' h => ⟨w.heap.size, h.1, Nat.le_refl _, OwnK.of B4.len (by decide) h.2.1, h.2.2⟩

theorem keepBind {w0 W w' : World} {B : Nat} {p0 p1 p2 p3 p4 p5 p6 p7 : Addr} {v0 v1 v2 v3 v4 v5 v6 v7 : Value} (hb : Below W.heap.size W w')
    (h : W.cell? p0 = some v0 ∧ W.cell? p1 = some v1 ∧ W.cell? p2 = some v2 ∧ W.cell? p3 = some v3 ∧ W.cell? p4 = some v4 ∧ W.cell? p5 = some v5 ∧ W.cell? p6 = some v6 ∧ W.cell? p7 = some v7 ∧ Below B w0 W ∧ B ≤ W.heap.size) :
    w'.cell? p0 = some v0 ∧ w'.cell? p1 = some v1 ∧ w'.cell? p2 = some v2 ∧ w'.cell? p3 = some v3 ∧ w'.cell? p4 = some v4 ∧ w'.cell? p5 = some v5 ∧ w'.cell? p6 = some v6 ∧ w'.cell? p7 = some v7 ∧ Below B w0 w' ∧ B ≤ w'.heap.size := by
  obtain ⟨q0, q1, q2, q3, q4, q5, q6, q7, h6, h7⟩ := h
  have k : ∀ {a : Addr} {v : Value}, W.cell? a = some v → w'.cell? a = some v := fun {a v} h => by rw [hb.cell (World.block_lt_of_cell? W _ h)]; exact h
  exact ⟨k q0, k q1, k q2, k q3, k q4, k q5, k q6, k q7, h6.trans (hb.mono h7), Nat.le_trans h7 hb.size⟩
set_option maxRecDepth 100000 in
set_option maxHeartbeats 1600000 in
theorem eqBindS_same (a b : Option Addr) (ca cb : Nat) (L : List B4) (w : World) (hr : RdBind w a L) (hq : RdBind w b L) (hm : L.length ≤ 2097152) :
    Calls Try.prog 23 #[.slice a L.length ca, .slice b L.length cb] w fun e w' =>
      e = .returned (.bool true) ∧ Below w.heap.size w w' := by
  obtain ⟨n, hN⟩ : ∃ n, n = L.length := ⟨_, rfl⟩
  rw [← hN] at hm ⊢
  have HN := hide hN
  clear hN
  have hnn : ((n : Int) != (n : Int)) = false := by simp
  go_enter Try.func23, Try.ntmps23
  go_wp2
  go_loopw [5] (fun i wr => ∃ (k : Nat), k ≤ n ∧ i = .int .i64 k ∧ Below w.heap.size w wr) (fun i _ => n - (intOf i).toNat)
  case atStart => exact ⟨0, Nat.zero_le _, rfl, Below.refl _ _⟩
  case round =>
    obtain ⟨k, hk, rfl, hbel⟩ := hrel
    by_cases hlt : k < n
    · obtain ⟨b1, o1, e1, hbw1, hc1⟩ := RdBind.cells hr (by rw [← HN.out]; omega)
      obtain ⟨b2, o2, e2, hbw2, hc2⟩ := RdBind.cells hq (by rw [← HN.out]; omega)
      obtain ⟨c0, c1, c2, c3⟩ := hc1 k (by rw [← HN.out]; exact hlt)
      obtain ⟨d0, d1, d2, d3⟩ := hc2 k (by rw [← HN.out]; exact hlt)
      clear hc1 hc2
      subst e1 e2
      rw [← hbel.cell (p := ⟨b1, o1 + k * 4, none⟩) hbw1] at c0
      rw [← hbel.cell (p := ⟨b2, o2 + k * 4, none⟩) hbw2] at d0
      rw [← hbel.cell (p := ⟨b1, o1 + k * 4 + 1, none⟩) hbw1] at c1
      rw [← hbel.cell (p := ⟨b2, o2 + k * 4 + 1, none⟩) hbw2] at d1
      rw [← hbel.cell (p := ⟨b1, o1 + k * 4 + 2, none⟩) hbw1] at c2
      rw [← hbel.cell (p := ⟨b2, o2 + k * 4 + 2, none⟩) hbw2] at d2
      rw [← hbel.cell (p := ⟨b1, o1 + k * 4 + 3, none⟩) hbw1] at c3
      rw [← hbel.cell (p := ⟨b2, o2 + k * 4 + 3, none⟩) hbw2] at d3
      generalize (eAt L k).N = N at c0 d0
      generalize (eAt L k).V.K = VK at c1 d1
      generalize (eAt L k).V.N = VN at c2 d2
      generalize (eAt L k).V.S = VS at c3 d3
      go_wp2_with fail
      go_region_held3 (fun W => W.cell? ⟨b1, o1 + k * 4, none⟩ = some (.string N) ∧ W.cell? ⟨b1, o1 + k * 4 + 1, none⟩ = some (.int .i64 VK) ∧ W.cell? ⟨b1, o1 + k * 4 + 2, none⟩ = some (.int .i64 VN) ∧ W.cell? ⟨b1, o1 + k * 4 + 3, none⟩ = some (.string VS) ∧ W.cell? ⟨b2, o2 + k * 4, none⟩ = some (.string N) ∧ W.cell? ⟨b2, o2 + k * 4 + 1, none⟩ = some (.int .i64 VK) ∧ W.cell? ⟨b2, o2 + k * 4 + 2, none⟩ = some (.int .i64 VN) ∧ W.cell? ⟨b2, o2 + k * 4 + 3, none⟩ = some (.string VS) ∧ Below w.heap.size w W ∧ w.heap.size ≤ W.heap.size) (first | exact ⟨c0, c1, c2, c3, d0, d1, d2, d3, hbel.drew, hbel.size⟩ | exact keepBind (by assumption) (by assumption))
        (first | (go_at_call 64; refine (eqBind_same _ _ _ _ _).mono ?_; rintro e w2 ⟨rfl, hb⟩))
      all_goals
        obtain ⟨-, -, -, -, -, -, -, -, hB2, -⟩ : w2.cell? ⟨b1, o1 + k * 4, none⟩ = some (.string N) ∧ w2.cell? ⟨b1, o1 + k * 4 + 1, none⟩ = some (.int .i64 VK) ∧ w2.cell? ⟨b1, o1 + k * 4 + 2, none⟩ = some (.int .i64 VN) ∧ w2.cell? ⟨b1, o1 + k * 4 + 3, none⟩ = some (.string VS) ∧ w2.cell? ⟨b2, o2 + k * 4, none⟩ = some (.string N) ∧ w2.cell? ⟨b2, o2 + k * 4 + 1, none⟩ = some (.int .i64 VK) ∧ w2.cell? ⟨b2, o2 + k * 4 + 2, none⟩ = some (.int .i64 VN) ∧ w2.cell? ⟨b2, o2 + k * 4 + 3, none⟩ = some (.string VS) ∧ Below w.heap.size w w2 ∧ w.heap.size ≤ w2.heap.size := by assumption
        go_wp2
        go_roundw
        case rel => exact ⟨k + 1, by omega, by go_num, hB2⟩
        case measure => simp [intOf]; omega
    · go_wp2
      go_ret
      exact ⟨rfl, hbel⟩
end Go.Proofs.Ytfgigcdfmkfkjaa
/-
  A bind that was just laid, cell by cell.
-/
namespace Go.Proofs.Ytfgigcdfmkfkjaa
open Go.RowKit
set_option linter.unusedVariables false

theorem src4 (W : World) (x : B4) : ∀ j u, (x.cs)[j]? = some u → (W.alloc (.cells #[.string x.N, .int .i64 x.V.K, .int .i64 x.V.N, .string x.V.S] 107)).cell? ((⟨W.heap.size, 0, none⟩ : Addr).add j) = some u := by
  intro j u hj
  rw [Addr.add_lit, Nat.zero_add]
  have hb : (W.alloc (.cells #[.string x.N, .int .i64 x.V.K, .int .i64 x.V.N, .string x.V.S] 107)).heap[W.heap.size]? = some (.cells #[.string x.N, .int .i64 x.V.K, .int .i64 x.V.N, .string x.V.S] 107 (0, 0)) := by rw [heap_alloc_new]
  rw [cell_of_row _ _ j _ _ (0, 0) hb, ← hj]
  simp [B4.cs]
theorem one4 (x : B4) : ∀ u ∈ x.cs, u.oneCell' = true := by
  intro u hu
  simp only [B4.cs, List.mem_cons, List.not_mem_nil, or_false] at hu
  rcases hu with rfl | rfl | rfl | rfl <;> rfl
end Go.Proofs.Ytfgigcdfmkfkjaa
/-
  What the tested functions that hold an argument against a value answer: stepM.
-/
namespace Go.Proofs.Ytfgigcdfmkfkjaa
open Go.RowKit
set_option linter.unusedVariables false

theorem below_2boxN (w : World) (o p : Obj) (n : Nat) : Below w.heap.size w (((w.alloc o).alloc p).drewN n) :=
  (((Below.refl w.heap.size w).alloc (Nat.le_refl _) o).alloc (by simp) p).trans ⟨rfl, rfl, rfl, Nat.le_refl _, fun _ _ => rfl⟩

set_option maxRecDepth 100000 in
theorem clip_any (a : Option Addr) (cap : Nat) (M : List B4) (w : World) (hr : RdBind w a M) (hc : M.length ≤ cap) (hm : M.length ≤ 2097152) :
    Calls Try.prog 99 #[.slice a M.length cap] w fun e w' => (∃ a', e = .returned (.slice a' M.length M.length) ∧ RdBind w a' M) ∧ w' = w := by
  go_enter Try.func99, Try.ntmps99
  go_wp2
  go_ret
  exact ⟨⟨a, rfl, hr⟩, rfl⟩

/-- the list of binds on the way: the caller's own, without spare room, or one of the call's own -/
def BL (base : Nat) (W : World) (a : Option Addr) (cap : Nat) (M : List B4) : Prop :=
  RdBind W a M ∧ (cap = M.length ∧ (a = none → M.length = 0) ∨ W.ownsRow base 107 4 (.slice a M.length cap) M.length (rowOf B4.cs M))
theorem BL.below {base : Nat} {W W' : World} {a : Option Addr} {cap : Nat} {M : List B4} (h : BL base W a cap M) (hb : Below W.heap.size W W') : BL base W' a cap M :=
  ⟨h.1.below hb, h.2.imp id (fun h => ownsRow_below' h hb)⟩

set_option maxRecDepth 100000 in
set_option maxHeartbeats 1600000 in
theorem matchAny_any (K : Int) (S : ByteArray) (V u : V3) (v : Value) (w : World) :
    Calls Try.prog 133 #[.agg #[.int .i64 K, .string S, .int .i64 V.K, .int .i64 V.N, .string V.S], .agg #[.int .i64 u.K, .int .i64 u.N, .string u.S], v] w fun e w' =>
      e = .returned (.tuple #[v, .bool true]) ∧ Below w.heap.size w w' := by
  go_enter Try.func133, Try.ntmps133
  go_wp2
  go_returns
  exact ⟨rfl, by go_grown⟩

set_option maxRecDepth 100000 in
set_option maxHeartbeats 1600000 in
theorem matchVal_any (K : Int) (S : ByteArray) (V u : V3) (v : Value) (w : World) :
    Calls Try.prog 132 #[.agg #[.int .i64 K, .string S, .int .i64 V.K, .int .i64 V.N, .string V.S], .agg #[.int .i64 u.K, .int .i64 u.N, .string u.S], v] w fun e w' =>
      e = .returned (.tuple #[v, .bool (decide (V = u))]) ∧ Below w.heap.size w w' := by
  rcases v3_cases V u with rfl | ⟨hne, hv⟩
  · have k1 : (V.K == V.K) = true := by simp
    have k2 : (V.N == V.N) = true := by simp
    have k3 : (V.S.toList == V.S.toList) = true := by simp
    rw [decide_eq_true rfl]
    go_enter Try.func132, Try.ntmps132
    go_wp2
    go_quiet (fail)
    go_wp2
    go_returns
    exact ⟨rfl, below_2boxN _ _ _ _⟩
  · rw [decide_eq_false hne]
    clear hne
    rcases hv with k1 | ⟨k1, k2⟩ | ⟨k1, k2, k3⟩
    all_goals
      go_enter Try.func132, Try.ntmps132
      go_wp2
      go_quiet (fail)
      go_wp2
      go_returns
      exact ⟨rfl, below_2boxN _ _ _ _⟩

theorem ownsRow_lowK {w : World} {base base' size n : Nat} {e : TypeId} {v : Value} {xs : List Value} (h : w.ownsRow base e size v n xs) (hb : base' ≤ base) : w.ownsRow base' e size v n xs := by
  refine ⟨h.1, ?_⟩
  rcases h.2 with h2 | ⟨g, cap, cur, h1, hb', rest⟩
  · exact .inl h2
  · exact .inr ⟨g, cap, cur, h1, Nat.le_trans hb hb', rest⟩
def GivesM (e : Ending) (w' : World) (base : Nat) (w : World) (r : List B4 × Bool) : Prop := ∃ a' cap', e = .returned (.tuple #[.slice a' r.1.length cap', .bool r.2]) ∧ BL base w' a' cap' r.1 ∧ Below base w w'
theorem rdK_src {α : Type} [Inhabited α] {f : α → List Value} {k : Nat} (hk : ∀ x, (f x).length = k) (hp : 0 < k) {w : World} {b : Addr} {L : List α} (h : RdK f k w (some b) L) : ∀ j u, (rowOf f L)[j]? = some u → w.cell? (b.add j) = some u := by
  intro j u hj
  have hl : j < L.length * k := by rw [← rowOf_length hk]; exact (List.getElem?_eq_some_iff.1 hj).1
  have hi : j / k < L.length := (Nat.div_lt_iff_lt_mul hp).2 hl
  have hr : j % k < k := Nat.mod_lt _ hp
  have ej : j = (j / k) * k + j % k := (Nat.div_add_mod' j k).symm
  obtain ⟨b', off, e, hc⟩ := h (j / k) hi
  simp only [Option.some.injEq] at e
  subst e
  rw [ej, rowOf_get hk L (j / k) (j % k) hi hr, ← eAt_in hi] at hj
  have := hc (j % k) u hj
  rw [Addr.add_lit]
  rw [Nat.add_assoc, ← ej] at this
  exact this
set_option maxRecDepth 100000 in
set_option maxHeartbeats 3200000 in
theorem matchVar_any (S : ByteArray) (V u : V3) (a : Option Addr) (cap base : Nat) (M : List B4) (w : World) (hbase : base ≤ w.heap.size) (h : BL base w a cap M) (hs : ∀ x ∈ M, x.small) (hm : M.length ≤ 2000000) :
    Calls Try.prog 131 #[.agg #[.int .i64 1, .string S, .int .i64 V.K, .int .i64 V.N, .string V.S], .agg #[.int .i64 u.K, .int .i64 u.N, .string u.S], .slice a M.length cap] w fun e w' =>
      GivesM e w' base w (stepM M ⟨1, S, V⟩ u) := by
  obtain ⟨i0, hi, hz0, hz1, hz2⟩ := info_parts Try.info107
  have b0 := below_al w (.cells #[.int .i64 1, .string S, .int .i64 V.K, .int .i64 V.N, .string V.S] 157)
  have b1 := b0.alloc b0.size (.cells #[.int .i64 u.K, .int .i64 u.N, .string u.S] 105)
  have hA := box_old (boxk_new w #[.int .i64 1, .string S, .int .i64 V.K, .int .i64 V.N, .string V.S] 157) (by simp) (.cells #[.int .i64 u.K, .int .i64 u.N, .string u.S] 105)
  have hU := boxk_new (w.alloc (.cells #[.int .i64 1, .string S, .int .i64 V.K, .int .i64 V.N, .string V.S] 157)) #[.int .i64 u.K, .int .i64 u.N, .string u.S] 105
  simp only [World.size_alloc] at hU
  have h1 := h.below b1
  have hz : w.heap.size + 2 ≤ ((w.alloc (.cells #[.int .i64 1, .string S, .int .i64 V.K, .int .i64 V.N, .string V.S] 157)).alloc (.cells #[.int .i64 u.K, .int .i64 u.N, .string u.S] 105)).heap.size := by simp
  obtain ⟨n, hN⟩ : ∃ n, n = M.length := ⟨_, rfl⟩
  have HBO := hide (fun W (h : RdBind W a M) => implBindOf_any a cap M S W h hs (by omega))
  rw [← hN] at HBO hm ⊢
  have HN := hide hN
  clear hN hs h
  cases hb : bindO M S with
  | some v =>
    rw [hb] at HBO
    rw [stepM_K1 hb]
    clear hb
    simp only [bindA] at HBO
    obtain ⟨r, hr⟩ : ∃ r : Bool, r = decide (v = u) := ⟨_, rfl⟩
    rw [← hr]
    go_enter Try.func131, Try.ntmps131
    go_wp2_with fail
    refine (HBO.out _ h1.1).mono ?_
    generalize (w.alloc (.cells #[.int .i64 1, .string S, .int .i64 V.K, .int .i64 V.N, .string V.S] 157)).alloc (.cells #[.int .i64 u.K, .int .i64 u.N, .string u.S] 105) = w1 at b1 hA hU h1 hz
    rintro e w2 ⟨rfl, hb2⟩
    have HA := hide (box_below hA hb2 (by omega))
    have HU := hide (box_below hU hb2 (by omega))
    have h2 := h1.below hb2
    have hB2 : Below w.heap.size w w2 := b1.trans (hb2.mono b1.size)
    have hz2' : w.heap.size + 2 ≤ w2.heap.size := Nat.le_trans hz hb2.size
    clear hA hU h1 hb2 b0 b1 HBO
    obtain ⟨u0, u1, u2, -, -, -⟩ := box_cell (box_old HU.out (by omega) (.cells #[.int .i64 v.K, .int .i64 v.N, .string v.S] 105))
    obtain ⟨x0, x1, x2, -, -, -⟩ := box_cell (boxk_new w2 #[.int .i64 v.K, .int .i64 v.N, .string v.S] 105)
    have b3 := hB2.alloc hB2.size (.cells #[.int .i64 v.K, .int .i64 v.N, .string v.S] 105)
    have h3 := h2.below (below_al w2 (.cells #[.int .i64 v.K, .int .i64 v.N, .string v.S] 105))
    have HG : Hid (∀ n', GivesM (.returned (.tuple #[.slice a n cap, .bool r])) ((w2.alloc (.cells #[.int .i64 v.K, .int .i64 v.N, .string v.S] 105)).drewN n') base w (M, r)) := fun n' =>
      ⟨a, cap, by rw [HN.out], ⟨h3.1.heap rfl, h3.2⟩, (b3.mono hbase).trans ⟨rfl, rfl, rfl, Nat.le_refl _, fun _ _ => rfl⟩⟩
    clear h2 hB2
    rcases v3_cases v u with he | ⟨hne, hv⟩
    · obtain rfl : r = true := by rw [hr]; simpa using he
      subst he
      clear hr
      have k1 : (v.K == v.K) = true := by simp
      have k2 : (v.N == v.N) = true := by simp
      have k3 : (v.S.toList == v.S.toList) = true := by simp
      go_wp2
      go_quiet (fail)
      go_wp2
      go_returns
      exact HG.out _
    · obtain rfl : r = false := by rw [hr]; simpa using hne
      clear hr hne
      rcases hv with k1 | ⟨k1, k2⟩ | ⟨k1, k2, k3⟩
      all_goals
        go_wp2
        go_quiet (fail)
        go_wp2
        go_returns
        exact HG.out _
  | none =>
    rw [hb] at HBO
    rw [stepM_K1n hb]
    clear hb
    simp only [bindA] at HBO
    go_enter Try.func131, Try.ntmps131
    go_wp2_with fail
    refine (HBO.out _ h1.1).mono ?_
    generalize (w.alloc (.cells #[.int .i64 1, .string S, .int .i64 V.K, .int .i64 V.N, .string V.S] 157)).alloc (.cells #[.int .i64 u.K, .int .i64 u.N, .string u.S] 105) = w1 at b1 hA hU h1 hz
    rintro e w2 ⟨rfl, hb2⟩
    have HA := hide (box_below hA hb2 (by omega))
    have HU := hide (box_below hU hb2 (by omega))
    have h2 := h1.below hb2
    have hB2 : Below w.heap.size w w2 := b1.trans (hb2.mono b1.size)
    have hz2' : w.heap.size + 2 ≤ w2.heap.size := Nat.le_trans hz hb2.size
    clear hA hU h1 hb2 b0 b1 HBO
    have b3 := hB2.alloc hB2.size (.cells #[.int .i64 0, .int .i64 0, .string ⟨#[]⟩] 105)
    have hz3 : w.heap.size + 2 ≤ (w2.alloc (.cells #[.int .i64 0, .int .i64 0, .string ⟨#[]⟩] 105)).heap.size := by simp; omega
    have h3 := h2.below (below_al w2 (.cells #[.int .i64 0, .int .i64 0, .string ⟨#[]⟩] 105))
    have s1 := boxk_cell (box_old HA.out (by omega) (.cells #[.int .i64 0, .int .i64 0, .string ⟨#[]⟩] 105)) 1 _ rfl
    obtain ⟨u0, u1, u2, -, -, -⟩ := box_cell (box_old HU.out (by omega) (.cells #[.int .i64 0, .int .i64 0, .string ⟨#[]⟩] 105))
    have HZ0 := hide (by exact (rfl : w2.alloc (.cells #[.int .i64 0, .int .i64 0, .string ⟨#[]⟩] 105) = w2.alloc (.cells #[.int .i64 0, .int .i64 0, .string ⟨#[]⟩] 105)))
    obtain ⟨w3, hw3⟩ : ∃ w3, w3 = w2.alloc (.cells #[.int .i64 0, .int .i64 0, .string ⟨#[]⟩] 105) := ⟨_, rfl⟩
    have b4 := b3.alloc b3.size (.cells #[.string S, .int .i64 u.K, .int .i64 u.N, .string u.S] 107)
    have h4 := h3.below (below_al (w2.alloc (.cells #[.int .i64 0, .int .i64 0, .string ⟨#[]⟩] 105)) (.cells #[.string S, .int .i64 u.K, .int .i64 u.N, .string u.S] 107))
    have HSrc := hide (src4 (w2.alloc (.cells #[.int .i64 0, .int .i64 0, .string ⟨#[]⟩] 105)) ⟨S, u⟩)
    have HL : Hid ((rowOf B4.cs M).length = n * 4) := by unfold Hid; rw [rowOf_length B4.len, HN.out]
    have HApp : Hid (rowOf B4.cs M ++ B4.cs ⟨S, u⟩ = rowOf B4.cs (M ++ [⟨S, u⟩])) := by unfold Hid; rw [rowOf_append]; simp [rowOf]
    clear h2 hB2 h3 HZ0 hw3
    have hz5 : w.heap.size ≤ ((w2.alloc (.cells #[.int .i64 0, .int .i64 0, .string ⟨#[]⟩] 105)).alloc (.cells #[.string S, .int .i64 u.K, .int .i64 u.N, .string u.S] 107)).heap.size := b4.size
    rcases h4 with ⟨rd4, hcap | ho4⟩
    · obtain ⟨hc1, hc2⟩ := hcap
      have HNone : Hid (a = none → n = 0 ∧ cap = 0) := fun e => by have := hc2 e; rw [HN.out, hc1]; exact ⟨this, this⟩
      have hcn : cap = n := by rw [hc1, HN.out]
      subst hcn
      have HOld : Hid (∀ b, a = some b → ∀ j x, (rowOf B4.cs M)[j]? = some x → ((w2.alloc (.cells #[.int .i64 0, .int .i64 0, .string ⟨#[]⟩] 105)).alloc (.cells #[.string S, .int .i64 u.K, .int .i64 u.N, .string u.S] 107)).cell? (b.add j) = some x) := fun b e => by subst e; exact rdK_src B4.len (by decide) rd4
      clear hc1 hc2 rd4
      go_wp2_with (at_builtin; refine wpList_append_grows _ rfl (.tmp 22) (.tmp 27) 28 rfl 107 i0 (.agg #[.string ⟨#[]⟩, .int .i64 0, .int .i64 0, .string ⟨#[]⟩]) 4 48 Try.underlying28 hi hz0 hz1 hz2 rfl (by omega) a cap cap (rowOf B4.cs M) rfl HNone.out HL.out HOld.out ⟨(w2.alloc (.cells #[.int .i64 0, .int .i64 0, .string ⟨#[]⟩] 105)).heap.size, 0, none⟩ 1 1 (B4.cs ⟨S, u⟩) ?hx rfl HSrc.out (one4 _) (by omega) (by unfold maxLen; omega) (by omega) ?_)
      case hx => simp [Act.eval]
      intro v' w5 ho5 hg5
      rw [HApp.out] at ho5
      obtain ⟨a5, c5, rfl, rd5, hn5, -, -⟩ := rdK_owns B4.len (by decide) ho5
      have HG : Hid (GivesM (.returned (.tuple #[.slice a5 (M ++ [(⟨S, u⟩ : B4)]).length c5, .bool true])) w5 base w (M ++ [(⟨S, u⟩ : B4)], true)) := by
        refine ⟨a5, c5, rfl, ⟨rd5, .inr ?_⟩, (b4.mono hbase).grown hg5 (by omega) (fun k hk => by cases hk)⟩
        rw [hn5] at ho5
        exact ownsRow_lowK ho5 (by omega)
      clear ho5 hg5 rd5 hn5
      go_wp2
      go_returns
      exact HG.out
    · have HO4 := hide ho4
      have hn4 : (Value.slice a M.length cap) = .slice a n cap := by rw [HN.out]
      rw [hn4, ← HN.out] at HO4
      clear ho4 rd4 hn4
      go_wp2_with (at_builtin; refine wpList_append_lies _ rfl (.tmp 22) (.tmp 27) 28 rfl base 107 i0 (.agg #[.string ⟨#[]⟩, .int .i64 0, .int .i64 0, .string ⟨#[]⟩]) 4 48 Try.underlying28 hi hz0 hz1 hz2 rfl (by omega) (.slice a n cap) n (rowOf B4.cs M) rfl HO4.out ⟨(w2.alloc (.cells #[.int .i64 0, .int .i64 0, .string ⟨#[]⟩] 105)).heap.size, 0, none⟩ 1 1 (B4.cs ⟨S, u⟩) ?hx rfl HSrc.out (one4 _) (by omega) (by unfold maxLen; omega) (by omega) (by omega) _ rfl ?_)
      case hx => simp [Act.eval]
      intro g5 c5 w5 ho5 hg5 hat5 hlt5
      rw [HApp.out] at ho5
      obtain ⟨a5, c6, e5, rd5, hn5, -, -⟩ := rdK_owns B4.len (by decide) ho5
      simp only [Value.slice.injEq] at e5
      obtain ⟨rfl, e6, rfl⟩ := e5
      have HG : Hid (GivesM (.returned (.tuple #[.slice (some ⟨g5, 0, none⟩) (n + 1) c5, .bool true])) w5 base w (M ++ [(⟨S, u⟩ : B4)], true)) := by
        refine ⟨some ⟨g5, 0, none⟩, c5, by rw [hn5], ⟨rd5, .inr ?_⟩, (b4.mono hbase).grown hg5 (by omega) (fun k hk => (HO4.out.lt k hk).1)⟩
        rw [hn5] at ho5
        exact ho5
      clear ho5 hg5 rd5 hn5 e6 HO4 hat5 hlt5
      go_wp2
      go_returns
      exact HG.out
end Go.Proofs.Ytfgigcdfmkfkjaa
