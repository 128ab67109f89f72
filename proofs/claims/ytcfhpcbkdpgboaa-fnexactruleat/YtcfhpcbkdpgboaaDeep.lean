/-
  Rows of elements that hold lists of their own: each element's lists lie in blocks between two numbers, and these rise from element to element (OwnD). What is changed between two numbers alone (Out).
-/
import Derived.Test.YtcfhpcbkdpgboaaRowK
namespace Go.Proofs.Ytcfhpcbkdpgboaa
open Go.RowKit
set_option linter.unusedVariables false

theorem eAt_set {α : Type} [Inhabited α] {L : List α} {k : Nat} (h : k < L.length) (x : α) (i : Nat) : eAt (L.set k x) i = if i = k then x else eAt L i := by
  unfold eAt List.getD
  rw [List.getElem?_set]
  by_cases e : k = i
  · subst e; rw [if_pos rfl, if_pos rfl, if_pos h]; rfl
  · rw [if_neg e, if_neg (fun h => e h.symm)]
theorem map_len {α β : Type} {p : α → β} {K J : List α} (h : K.map p = J.map p) : K.length = J.length := by simpa using congrArg List.length h
theorem map_at {α β : Type} [Inhabited α] {p : α → β} {K J : List α} (h : K.map p = J.map p) {i : Nat} (hi : i < K.length) : p (eAt K i) = p (eAt J i) := by
  have hk : i < J.length := by rw [← map_len h]; exact hi
  have e : (K.map p)[i]? = (J.map p)[i]? := by rw [h]
  rw [List.getElem?_map, List.getElem?_map, List.getElem?_eq_getElem hi, List.getElem?_eq_getElem hk] at e
  simp only [Option.map_some, Option.some.injEq] at e
  rw [eAt_in hi, eAt_in hk]; exact e
theorem map_ext {α β : Type} [Inhabited α] {p : α → β} {K J : List α} (hl : K.length = J.length) (h : ∀ i, i < K.length → p (eAt K i) = p (eAt J i)) : K.map p = J.map p := by
  apply List.ext_getElem (by simpa using hl)
  intro i h1 h2
  have hi : i < K.length := by simpa using h1
  have := h i hi
  rw [eAt_in hi, eAt_in (by omega)] at this
  simpa using this
/-- the weights of the first j -/
def totW {α : Type} (wt : α → Nat) (K : List α) (j : Nat) : Nat := ((K.take j).map wt).sum
theorem totW_zero {α : Type} (wt : α → Nat) (K : List α) : totW wt K 0 = 0 := by simp [totW]
theorem totW_step {α : Type} [Inhabited α] {wt : α → Nat} {K : List α} {j : Nat} (h : j < K.length) : totW wt K (j + 1) = totW wt K j + wt (eAt K j) := by
  unfold totW; rw [List.take_succ_eq_append_getElem h, eAt_in h, List.map_append, List.sum_append]; simp only [List.map_cons, List.map_nil, List.sum_cons, List.sum_nil, Nat.add_zero]
theorem totW_end {α : Type} (wt : α → Nat) (K : List α) : totW wt K K.length = (K.map wt).sum := by unfold totW; rw [List.take_length]
theorem totW_le {α : Type} (wt : α → Nat) (K : List α) (j : Nat) : totW wt K j ≤ (K.map wt).sum := by
  unfold totW
  have : (K.map wt).sum = ((K.take j).map wt).sum + ((K.drop j).map wt).sum := by rw [← List.sum_append, ← List.map_append, List.take_append_drop]
  omega
theorem totW_pl {α β : Type} {wt : α → Nat} {p : α → β} {v : β → Nat} (hv : ∀ x, wt x = v (p x)) {K J : List α} (h : K.map p = J.map p) : (K.map wt).sum = (J.map wt).sum := by
  have e : wt = v ∘ p := funext hv
  rw [e, ← List.map_map, ← List.map_map, h]
theorem totW_mul {α : Type} {wt v : α → Nat} {c : Nat} (h : ∀ x, wt x ≤ c * (v x + 1)) : ∀ K : List α, (K.map wt).sum ≤ c * (K.length + (K.map v).sum)
  | [] => by simp
  | x :: r => by
    have := totW_mul h r
    have := h x
    simp only [List.map_cons, List.sum_cons, List.length_cons, Nat.mul_add] at *
    omega
theorem sum_mem {α : Type} [Inhabited α] (wt : α → Nat) {K : List α} {i : Nat} (hi : i < K.length) : wt (eAt K i) ≤ (K.map wt).sum := by
  have h1 := totW_step (wt := wt) hi
  have h2 := totW_le wt K (i + 1)
  omega

theorem ownsRow_sameD {w w' : World} {base n size : Nat} {T : TypeId} {v : Value} {xs : List Value} (h : w.ownsRow base T size v n xs) (hs : ∀ k, v.ownBlock = some k → w'.heap[k]? = w.heap[k]?) : w'.ownsRow base T size v n xs := by
  refine ⟨h.1, ?_⟩
  rcases h.2 with h2 | ⟨g, cap, cur, rfl, hb, hg, rest⟩
  · exact .inl h2
  · exact .inr ⟨g, cap, cur, rfl, hb, by rw [hs g rfl]; exact hg, rest⟩
theorem OwnK.same {α : Type} [Inhabited α] {T : TypeId} {f : α → List Value} {k : Nat} {w w' : World} {g cap : Nat} {L : List α} (h : OwnK T f k w g cap L) (hs : w'.heap[g]? = w.heap[g]?) : OwnK T f k w' g cap L :=
  ownsRow_sameD h (fun q hq => by simp only [Value.ownBlock, Option.some.injEq] at hq; rw [← hq]; exact hs)

/-- what an element's lists are, between two numbers -/
structure Inn {α : Type} (I : World → Nat → Nat → α → Prop) : Prop where
  wide : ∀ {w : World} {s e s' e' : Nat} {x : α}, I w s e x → s' ≤ s → e ≤ e' → I w s' e' x
  same : ∀ {w w' : World} {s e : Nat} {x : α}, I w s e x → (∀ q, s ≤ q → q < e → w'.heap[q]? = w.heap[q]?) → I w' s e x
/-- one list, of plain elements -/
def InK {α β : Type} [Inhabited β] (T : TypeId) (f : β → List Value) (k : Nat) (ad : α → Option Addr) (cp : α → Nat) (ls : α → List β) (w : World) (s e : Nat) (x : α) : Prop :=
  ∃ q, ad x = some ⟨q, 0, none⟩ ∧ s ≤ q ∧ q < e ∧ OwnK T f k w q (cp x) (ls x)
theorem inn_K {α β : Type} [Inhabited β] (T : TypeId) (f : β → List Value) (k : Nat) (ad : α → Option Addr) (cp : α → Nat) (ls : α → List β) : Inn (InK T f k ad cp ls) :=
  ⟨fun ⟨q, h1, h2, h3, h4⟩ hs he => ⟨q, h1, Nat.le_trans hs h2, Nat.lt_of_lt_of_le h3 he, h4⟩, fun ⟨q, h1, h2, h3, h4⟩ h => ⟨q, h1, h2, h3, h4.same (h q h2 h3)⟩⟩
/-- block g holds the elements K, at its head; the lists of the first m lie behind it, each element's behind those of the ones ahead, all ahead of 'hi' -/
structure OwnD {α : Type} [Inhabited α] (T : TypeId) (f : α → List Value) (k : Nat) (I : World → Nat → Nat → α → Prop) (w : World) (lo hi g cp : Nat) (K : List α) (m : Nat) : Prop where
  own : OwnK T f k w g cp K
  low : lo ≤ g
  top : hi ≤ w.heap.size
  lth : g < hi
  bnd : ∃ s : Nat → Nat, (∀ i, i ≤ m → g < s i ∧ s i ≤ hi) ∧ ∀ i, i < m → s i ≤ s (i + 1) ∧ I w (s i) (s (i + 1)) (eAt K i)
section
variable {α : Type} [Inhabited α] {T : TypeId} {f : α → List Value} {k : Nat} {I : World → Nat → Nat → α → Prop}
theorem OwnD.zero {w : World} {lo hi g cp : Nat} {K : List α} (h : OwnK T f k w g cp K) (hl : lo ≤ g) (ht : hi ≤ w.heap.size) (hg : g < hi) : OwnD T f k I w lo hi g cp K 0 :=
  ⟨h, hl, ht, hg, fun _ => g + 1, fun i _ => ⟨Nat.lt_succ_self _, hg⟩, fun i hi => absurd hi (Nat.not_lt_zero _)⟩
theorem OwnD.step (hI : Inn I) {w w1 w2 : World} {lo hi g cp m : Nat} {K : List α} {x : α} (h : OwnD T f k I w lo hi g cp K m) (hm : m < K.length) (hb : Below w.heap.size w w1) (hx : I w1 w.heap.size w1.heap.size x) (hg : w1.grownBy w2 (some g)) (ho : OwnK T f k w2 g cp (K.set m x)) :
    OwnD T f k I w2 lo w1.heap.size g cp (K.set m x) (m + 1) := by
  obtain ⟨s, hs, hin⟩ := h.bnd
  have hsz := hb.size
  have ht := h.top
  have hgl := h.lth
  refine ⟨ho, h.low, hg.size, by omega, fun i => if i ≤ m then s i else w1.heap.size, fun i hi => ?_, fun i hi => ?_⟩
  · by_cases e : i ≤ m
    · simp only [if_pos e]
      have := hs i e
      omega
    · simp only [if_neg e]
      omega
  · by_cases e : i = m
    · subst e
      have := hs i (Nat.le_refl _)
      simp only [if_pos (Nat.le_refl _), if_neg (Nat.not_succ_le_self _)]
      refine ⟨by omega, ?_⟩
      rw [eAt_set hm, if_pos rfl]
      refine hI.same (hI.wide hx (by omega) (Nat.le_refl _)) (fun q h1 h2 => hg.block q h2 (by simp; omega))
    · have hlt : i < m := by omega
      have h1 := hs i (by omega)
      have h2 := hs (i + 1) (by omega)
      have h3 := hin i hlt
      simp only [if_pos (Nat.le_of_lt hlt), if_pos (Nat.succ_le_of_lt hlt)]
      refine ⟨h3.1, ?_⟩
      rw [eAt_set hm, if_neg e]
      refine hI.same h3.2 (fun q hq1 hq2 => ?_)
      rw [hg.block q (by omega) (by simp; omega), hb.block q (by omega)]
theorem OwnD.keep (hI : Inn I) {w w' : World} {lo hi g cp m : Nat} {K : List α} (h : OwnD T f k I w lo hi g cp K m) (hsz : w.heap.size ≤ w'.heap.size) (hs : ∀ q, lo ≤ q → q < hi → w'.heap[q]? = w.heap[q]?) : OwnD T f k I w' lo hi g cp K m := by
  obtain ⟨s, h1, h2⟩ := h.bnd
  have hl := h.low
  refine ⟨h.own.same (hs g hl h.lth), h.low, Nat.le_trans h.top hsz, h.lth, s, h1, fun i hi => ⟨(h2 i hi).1, hI.same (h2 i hi).2 (fun q hq1 hq2 => hs q ?_ ?_)⟩⟩
  · have := h1 i (by omega); omega
  · have := h1 (i + 1) (by omega); omega
theorem OwnD.later (hI : Inn I) {w w' : World} {lo hi g cp m : Nat} {K : List α} (h : OwnD T f k I w lo hi g cp K m) (hb : Below w.heap.size w w') : OwnD T f k I w' lo hi g cp K m :=
  h.keep hI hb.size (fun q _ hq => hb.block q (Nat.lt_of_lt_of_le hq h.top))
theorem OwnD.grown (hI : Inn I) {w w' : World} {lo hi g cp m p : Nat} {K : List α} (h : OwnD T f k I w lo hi g cp K m) (hg : w.grownBy w' (some p)) (hp : p < lo ∨ hi ≤ p) : OwnD T f k I w' lo hi g cp K m :=
  h.keep hI hg.size (fun q h1 h2 => hg.block q (Nat.lt_of_lt_of_le h2 h.top) (by simp; omega))
theorem OwnD.weaken {w : World} {lo lo' hi hi' g cp m : Nat} {K : List α} (h : OwnD T f k I w lo hi g cp K m) (hl : lo' ≤ lo) (hh : hi ≤ hi') (ht : hi' ≤ w.heap.size) : OwnD T f k I w lo' hi' g cp K m := by
  obtain ⟨s, h1, h2⟩ := h.bnd
  exact ⟨h.own, Nat.le_trans hl h.low, ht, Nat.lt_of_lt_of_le h.lth hh, s, fun i hi => ⟨(h1 i hi).1, Nat.le_trans (h1 i hi).2 hh⟩, h2⟩
theorem OwnD.at {w : World} {lo hi g cp m : Nat} {K : List α} (h : OwnD T f k I w lo hi g cp K m) {i : Nat} (hi : i < m) : ∃ s e, I w s e (eAt K i) := by
  obtain ⟨s, h1, h2⟩ := h.bnd
  exact ⟨_, _, (h2 i hi).2⟩
end

/-- nothing is changed but between lo and hi -/
structure Out (lo hi : Nat) (w w' : World) : Prop where
  os : w'.os = w.os
  tape : w'.tape = w.tape
  output : w'.output = w.output
  size : w.heap.size ≤ w'.heap.size
  blk : ∀ q, q < w.heap.size → (q < lo ∨ hi ≤ q) → w'.heap[q]? = w.heap[q]?
theorem Out.refl (lo hi : Nat) (w : World) : Out lo hi w w := ⟨rfl, rfl, rfl, Nat.le_refl _, fun _ _ _ => rfl⟩
theorem Out.trans {lo hi : Nat} {a b c : World} (h : Out lo hi a b) (k : Out lo hi b c) : Out lo hi a c :=
  ⟨k.os.trans h.os, k.tape.trans h.tape, k.output.trans h.output, Nat.le_trans h.size k.size, fun q hq ho => (k.blk q (Nat.lt_of_lt_of_le hq h.size) ho).trans (h.blk q hq ho)⟩
theorem Out.grown {lo hi : Nat} {a b c : World} {g : Nat} (h : Out lo hi a b) (k : b.grownBy c (some g)) (hl : lo ≤ g) (hh : g < hi) : Out lo hi a c :=
  ⟨k.os.trans h.os, k.tape.trans h.tape, k.output.trans h.output, Nat.le_trans h.size k.size, fun q hq ho => (k.block q (Nat.lt_of_lt_of_le hq h.size) (by simp; omega)).trans (h.blk q hq ho)⟩
theorem Out.below {lo hi : Nat} {a b c : World} (h : Out lo hi a b) (k : Below b.heap.size b c) : Out lo hi a c :=
  ⟨k.os.trans h.os, k.tape.trans h.tape, k.output.trans h.output, Nat.le_trans h.size k.size, fun q hq ho => (k.block q (Nat.lt_of_lt_of_le hq h.size)).trans (h.blk q hq ho)⟩
theorem Out.wide {lo hi lo' hi' : Nat} {a b : World} (h : Out lo hi a b) (hl : lo' ≤ lo) (hh : hi ≤ hi') : Out lo' hi' a b :=
  ⟨h.os, h.tape, h.output, h.size, fun q hq ho => h.blk q hq (by omega)⟩
theorem Out.bel {lo hi : Nat} {a b : World} (h : Out lo hi a b) (hl : lo ≤ a.heap.size) : Below lo a b :=
  ⟨h.os, h.tape, h.output, h.size, fun q hq => h.blk q (Nat.lt_of_lt_of_le hq hl) (.inl hq)⟩
theorem mono_le {s : Nat → Nat} {n : Nat} (h : ∀ i, i < n → s i ≤ s (i + 1)) : ∀ {a b : Nat}, a ≤ b → b ≤ n → s a ≤ s b := by
  intro a b hab
  induction hab with
  | refl => intro _; exact Nat.le_refl _
  | step _ ih => intro hb; exact Nat.le_trans (ih (by omega)) (h _ (by omega))
/-- nothing is changed but block g and what lies between a and b -/
structure Out2 (g a b : Nat) (w w' : World) : Prop where
  os : w'.os = w.os
  tape : w'.tape = w.tape
  output : w'.output = w.output
  size : w.heap.size ≤ w'.heap.size
  blk : ∀ q, q < w.heap.size → q ≠ g → (q < a ∨ b ≤ q) → w'.heap[q]? = w.heap[q]?
theorem Out2.of {g a b : Nat} {w w' : World} (k : w.grownBy w' (some g)) : Out2 g a b w w' :=
  ⟨k.os, k.tape, k.output, k.size, fun q hq hne _ => k.block q hq (by simp; omega)⟩
theorem Out2.at {g a b : Nat} {w w1 w2 : World} (h : Out2 g a b w w1) (k : w1.grownBy w2 (some g)) : Out2 g a b w w2 :=
  ⟨k.os.trans h.os, k.tape.trans h.tape, k.output.trans h.output, Nat.le_trans h.size k.size, fun q hq hne ho => (k.block q (Nat.lt_of_lt_of_le hq h.size) (by simp; omega)).trans (h.blk q hq hne ho)⟩
theorem Out2.inner {g a b p : Nat} {w w1 w2 : World} (h : Out2 g a b w w1) (k : w1.grownBy w2 (some p)) (h1 : a ≤ p) (h2 : p < b) : Out2 g a b w w2 :=
  ⟨k.os.trans h.os, k.tape.trans h.tape, k.output.trans h.output, Nat.le_trans h.size k.size, fun q hq hne ho => (k.block q (Nat.lt_of_lt_of_le hq h.size) (by simp; omega)).trans (h.blk q hq hne ho)⟩
theorem Out2.below {g a b : Nat} {w w1 w2 : World} (h : Out2 g a b w w1) (k : Below w1.heap.size w1 w2) : Out2 g a b w w2 :=
  ⟨k.os.trans h.os, k.tape.trans h.tape, k.output.trans h.output, Nat.le_trans h.size k.size, fun q hq hne ho => (k.block q (Nat.lt_of_lt_of_le hq h.size)).trans (h.blk q hq hne ho)⟩
/-- a row on its way to be marked: from the j-th element on all is as it was -/
structure MkD {α : Type} [Inhabited α] (T : TypeId) (f : α → List Value) (k : Nat) (I : World → Nat → Nat → α → Prop) (w : World) (lo hi g cp : Nat) (K : List α) (s : Nat → Nat) (j : Nat) (W : World) : Prop where
  row : ∃ K', K'.length = K.length ∧ OwnK T f k W g cp K' ∧ ∀ i, j ≤ i → i < K.length → eAt K' i = eAt K i
  inn : ∀ i, j ≤ i → i < K.length → I W (s i) (s (i + 1)) (eAt K i)
  out : Out lo hi w W
theorem MkD.step {α : Type} [Inhabited α] {T : TypeId} {f : α → List Value} {k : Nat} {I : World → Nat → Nat → α → Prop} (hI : Inn I) {w W W2 : World} {lo hi g cp : Nat} {K : List α} {s : Nat → Nat} {j : Nat} (h : MkD T f k I w lo hi g cp K s j W)
    (hs : ∀ i, i ≤ K.length → g < s i ∧ s i ≤ hi) (hm : ∀ i, i < K.length → s i ≤ s (i + 1)) (hlo : lo ≤ g) (hg : g < hi) (ht : hi ≤ w.heap.size) (hj : j < K.length) (h2 : Out2 g (s j) (s (j + 1)) W W2)
    (hrow : ∃ K', K'.length = K.length ∧ OwnK T f k W2 g cp K' ∧ ∀ i, j + 1 ≤ i → i < K.length → eAt K' i = eAt K i) : MkD T f k I w lo hi g cp K s (j + 1) W2 := by
  have hsz := h.out.size
  have hj1 := hs j (by omega)
  have hj2 := hs (j + 1) (by omega)
  refine ⟨hrow, fun i h1 hi' => hI.same (h.inn i (by omega) hi') (fun q hq1 hq2 => ?_), ⟨h2.os.trans h.out.os, h2.tape.trans h.out.tape, h2.output.trans h.out.output, Nat.le_trans hsz h2.size, fun q hq ho => ?_⟩⟩
  · have a1 := mono_le hm h1 (Nat.le_of_lt hi')
    have a2 := hs i (by omega)
    have a3 := hs (i + 1) (by omega)
    exact h2.blk q (by omega) (by omega) (.inr (by omega))
  · rw [h2.blk q (by omega) (by omega) (by omega)]
    exact h.out.blk q hq ho
end Go.Proofs.Ytcfhpcbkdpgboaa
