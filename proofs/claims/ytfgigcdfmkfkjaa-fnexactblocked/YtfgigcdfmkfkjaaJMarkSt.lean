/-
  The contract of the laws' own marker of items and stores: it writes numbers and texts into the items and into their lists of values, each in its own block, and touches no other block that was there.
-/
import Derived.Test.YtfgigcdfmkfkjaaJoined3
namespace Go.Proofs.Ytfgigcdfmkfkjaa
open Go.RowKit
set_option linter.unusedVariables false

def wI (x : It) : Nat := 2 + 3 * x.L.length
def totI (K : List It) (k : Nat) : Nat := ((K.take k).map wI).sum
theorem totI_zero (K : List It) : totI K 0 = 0 := by simp [totI]
theorem totI_step {K : List It} {k : Nat} (h : k < K.length) : totI K (k + 1) = totI K k + (2 + 3 * (iAt K k).L.length) := by
  unfold totI; rw [List.take_succ_eq_append_getElem h, iAt_in h, List.map_append, List.sum_append]; simp only [List.map_cons, List.map_nil, List.sum_cons, List.sum_nil, Nat.add_zero]; rfl
theorem totI_le {K : List It} {k : Nat} (hk : k ≤ K.length) : totI K k ≤ totI K K.length := by
  have : ∀ d, k + d ≤ K.length → totI K k ≤ totI K (k + d) := by
    intro d
    induction d with
    | zero => intro _; exact Nat.le_refl _
    | succ d ih =>
      intro h
      have h1 := ih (by omega)
      have h2 := totI_step (K := K) (k := k + d) (by omega)
      show totI K k ≤ totI K (k + d + 1)
      omega
  have h := this (K.length - k) (by omega)
  rw [show k + (K.length - k) = K.length by omega] at h
  exact h
/-- the i-th item, marked -/
def markI (K : List It) (k0 i : Nat) : It := ⟨((k0 + totI K i : Nat) : Int), markT (k0 + totI K i + 1), (iAt K i).a, (iAt K i).cap, marksV (k0 + totI K i + 2) (iAt K i).L.length⟩
def partJ (K : List It) (k0 j : Nat) : List It := (List.range K.length).map fun i => if i < j then markI K k0 i else iAt K i
theorem partJ_length (K : List It) (k0 j : Nat) : (partJ K k0 j).length = K.length := by simp [partJ]
theorem partJ_at {K : List It} {k0 j i : Nat} (hi : i < K.length) : iAt (partJ K k0 j) i = if i < j then markI K k0 i else iAt K i := by
  rw [iAt_in (by rw [partJ_length]; exact hi)]; simp [partJ]
theorem iAt_ext {A B : List It} (hl : A.length = B.length) (h : ∀ i, i < A.length → iAt A i = iAt B i) : A = B := by
  apply List.ext_getElem hl
  intro i h1 h2
  have := h i h1
  rwa [iAt_in h1, iAt_in h2] at this
theorem partJ_zero (K : List It) (k0 : Nat) : partJ K k0 0 = K := by
  refine iAt_ext (partJ_length _ _ _) (fun i hi => ?_)
  rw [partJ_length] at hi
  rw [partJ_at hi, if_neg (by omega)]
theorem partJ_set {K : List It} {k0 j : Nat} (hj : j < K.length) : (partJ K k0 j).set j (markI K k0 j) = partJ K k0 (j + 1) := by
  refine iAt_ext (by rw [List.length_set, partJ_length, partJ_length]) (fun i hi => ?_)
  rw [List.length_set, partJ_length] at hi
  rw [iAt_set (by rw [partJ_length]; exact hj), partJ_at hi, partJ_at hi]
  by_cases e : i = j
  · rw [if_pos e, if_pos (by omega), e]
  · rw [if_neg e]
    by_cases e2 : i < j
    · rw [if_pos e2, if_pos (by omega)]
    · rw [if_neg e2, if_neg (by omega)]
theorem partJ_a {K : List It} {k0 j i : Nat} (hi : i < K.length) : (iAt (partJ K k0 j) i).a = (iAt K i).a ∧ (iAt (partJ K k0 j) i).cap = (iAt K i).cap ∧ (iAt (partJ K k0 j) i).L.length = (iAt K i).L.length := by
  rw [partJ_at hi]
  split
  · exact ⟨rfl, rfl, by simp [markI, marksV_length]⟩
  · exact ⟨rfl, rfl, rfl⟩
theorem len_ne {A B : List V3} (h : A.length = B.length) (hn : A ≠ []) : B ≠ [] := fun e => hn (List.eq_nil_of_length_eq_zero (by rw [h, e]; rfl))
theorem rowOf_set2 {α : Type} {f : α → List Value} (hk : ∀ x, (f x).length = 3) (x : α) (c0 c1 c2 : Value) (hx : f x = [c0, c1, c2]) : ∀ (L : List α) (i : Nat) (hi : i < L.length), (f L[i])[2]? = some c2 →
    ((rowOf f L).set (i * 3) c0).set (i * 3 + 1) c1 = rowOf f (L.set i x)
  | [], i, hi, _ => absurd hi (Nat.not_lt_zero _)
  | y :: r, 0, hi, h2 => by
    obtain ⟨a, b, c, e⟩ := len3 (hk y)
    simp only [List.getElem_cons_zero] at h2
    rw [e] at h2
    simp at h2
    rw [rowOf_cons, e, List.set_cons_zero, rowOf_cons, hx, h2]
    rfl
  | y :: r, i + 1, hi, h2 => by
    obtain ⟨a, b, c, e⟩ := len3 (hk y)
    have ih := rowOf_set2 hk x c0 c1 c2 hx r i (by simpa using hi) (by simpa using h2)
    rw [rowOf_cons, e, List.set_cons_succ, rowOf_cons, ← ih, e]
    simp only [Nat.succ_mul]
    rfl

theorem ownsRow_same {w w' : World} {base n size : Nat} {T : TypeId} {v : Value} {xs : List Value} (h : w.ownsRow base T size v n xs) (hs : ∀ k, v.ownBlock = some k → w'.heap[k]? = w.heap[k]?) : w'.ownsRow base T size v n xs := by
  refine ⟨h.1, ?_⟩
  rcases h.2 with h2 | ⟨g, cap, cur, rfl, hb, hg, rest⟩
  · exact .inl h2
  · exact .inr ⟨g, cap, cur, rfl, hb, by rw [hs g rfl]; exact hg, rest⟩
theorem OwnV.same {w w' : World} {g cap : Nat} {L : List V3} (h : OwnV w g cap L) (hs : w'.heap[g]? = w.heap[g]?) : OwnV w' g cap L :=
  ownsRow_same h (fun k hk => by simp only [Value.ownBlock, Option.some.injEq] at hk; rw [← hk]; exact hs)

/-- the first j items are marked -/
structure Mk (w : World) (lo g cp : Nat) (K : List It) (k0 j : Nat) : Prop where
  own : w.ownsRow 0 122 3 (.slice (some ⟨g, 0, none⟩) K.length cp) K.length (rowOf It.cells (partJ K k0 j))
  vals : ∀ i, i < K.length → (iAt K i).L ≠ [] → ∃ q, (iAt K i).a = some ⟨q, 0, none⟩ ∧ lo ≤ q ∧ q ≠ g ∧ OwnV w q (iAt K i).cap (iAt (partJ K k0 j) i).L
theorem Mk.zero {w : World} {lo g cp : Nat} {K : List It} (h : HoldsI w lo g cp K) (k0 : Nat) : Mk w lo g cp K k0 0 := by
  refine ⟨by rw [partJ_zero]; exact h.own, fun i hi hne => ?_⟩
  rw [partJ_zero]; exact h.vals i hi hne
theorem Mk.done {w w' : World} {lo g cp : Nat} {K : List It} {k0 : Nat} (h0 : HoldsI w lo g cp K) (h : Mk w' lo g cp K k0 K.length) : HoldsI w' lo g cp (partJ K k0 K.length) := by
  have hl := partJ_length K k0 K.length
  refine ⟨by rw [hl]; exact h.own, h0.low, fun i hi hne => ?_, fun i j hij hj h1 h2 => ?_, fun i hi => ?_⟩
  · rw [hl] at hi
    obtain ⟨e1, e2, e3⟩ := partJ_a (K := K) (k0 := k0) (j := K.length) hi
    obtain ⟨q, h1, h2, h3, o⟩ := h.vals i hi (len_ne e3 hne)
    exact ⟨q, by rw [e1]; exact h1, h2, h3, by rw [e2]; exact o⟩
  · rw [hl] at hj
    obtain ⟨e1, e2, e3⟩ := partJ_a (K := K) (k0 := k0) (j := K.length) (i := i) (by omega)
    obtain ⟨f1, f2, f3⟩ := partJ_a (K := K) (k0 := k0) (j := K.length) (i := j) (by omega)
    rw [e1, f1]
    exact h0.apart i j hij hj (len_ne e3 h1) (len_ne f3 h2)
  · rw [hl] at hi
    obtain ⟨e1, e2, e3⟩ := partJ_a (K := K) (k0 := k0) (j := K.length) hi
    rw [e1, e2, e3]
    exact h0.lies i hi
/-- what is none of the marked blocks -/
def Apart (K : List It) (g q : Nat) : Prop := q ≠ g ∧ ∀ i, i < K.length → (iAt K i).L ≠ [] → (iAt K i).a ≠ some ⟨q, 0, none⟩
/-- one item more is marked: its cells are written, and its list of values -/
theorem Mk.step {w w3 w4 : World} {lo g cp : Nat} {K : List It} {k0 j : Nat} {W0 : World} (h0 : HoldsI W0 lo g cp K) (h : Mk w lo g cp K k0 j) (hj : j < K.length)
    (own : w3.ownsRow 0 122 3 (.slice (some ⟨g, 0, none⟩) K.length cp) K.length (rowOf It.cells (partJ K k0 (j + 1)))) (hsz : w.heap.size ≤ w3.heap.size) (ho : ∀ q, q < w.heap.size → q ≠ g → w3.heap[q]? = w.heap[q]?)
    (hv : (iAt K j).L ≠ [] → ∀ q, (iAt K j).a = some ⟨q, 0, none⟩ → OwnV w4 q (iAt K j).cap (marksV (k0 + totI K j + 2) (iAt K j).L.length))
    (ho4 : ∀ q, q < w3.heap.size → ((iAt K j).L ≠ [] → (iAt K j).a ≠ some ⟨q, 0, none⟩) → w4.heap[q]? = w3.heap[q]?) : Mk w4 lo g cp K k0 (j + 1) := by
  refine ⟨?_, fun i hi hne => ?_⟩
  · refine ownsRow_same own (fun k hk => ?_)
    simp only [Value.ownBlock, Option.some.injEq] at hk
    subst hk
    refine ho4 g (World.ownsRow.lt own g rfl).2 (fun hne e => ?_)
    obtain ⟨q, h1, -, h3, -⟩ := h.vals j hj hne
    rw [h1] at e
    simp only [Option.some.injEq, Addr.mk.injEq, and_true] at e
    exact h3 e
  · obtain ⟨q, h1, h2, h3, o⟩ := h.vals i hi hne
    refine ⟨q, h1, h2, h3, ?_⟩
    by_cases e : i = j
    · subst e
      rw [partJ_at hi, if_pos (by omega)]
      exact hv hne q h1
    · have e2 : iAt (partJ K k0 (j + 1)) i = iAt (partJ K k0 j) i := by
        rw [partJ_at hi, partJ_at hi]
        by_cases h : i < j
        · rw [if_pos h, if_pos (by omega)]
        · rw [if_neg h, if_neg (by omega)]
      rw [e2]
      have hq := o.lt
      refine o.same ?_
      rw [ho4 q (by omega) (fun hnj e3 => ?_), ho q hq h3]
      rcases Nat.lt_or_gt_of_ne e with hlt | hlt
      · exact h0.apart i j hlt hj hne hnj (h1.trans e3.symm)
      · exact h0.apart j i hlt hi hnj hne (e3.trans h1.symm)

set_option maxRecDepth 100000 in
set_option maxHeartbeats 1600000 in
theorem markValS_zero (a : Option Addr) (cap k0 : Nat) (w : World) (hk : k0 ≤ 33554500) :
    Calls Try.prog 110 #[.slice a 0 cap, .int .i64 (k0 : Int)] w fun e w' => e = .returned (.int .i64 (k0 : Int)) ∧ w' = w := by
  go_enter Try.func110, Try.ntmps110
  go_wp2
  go_rounds 1
  go_ret
  exact ⟨rfl, rfl⟩
/-- a list of values, none or in a block of its own, is marked -/
theorem markVals (a : Option Addr) (cap : Nat) (x : Int) (k0 : Nat) (L : List V3) (w : World) (lo : Nat) (hx : x = (k0 : Int)) (hn : L.length ≤ 1048580) (hk : k0 ≤ 33554500) (hlo : lo ≤ w.heap.size) (hq : L ≠ [] → ∃ q, a = some ⟨q, 0, none⟩ ∧ lo ≤ q ∧ OwnV w q cap L) :
    Calls Try.prog 110 #[.slice a L.length cap, .int .i64 x] w fun e w' =>
      (∃ r : Nat, e = .returned (.int .i64 (r : Int)) ∧ r = k0 + 3 * L.length) ∧ (L ≠ [] → ∀ q, a = some ⟨q, 0, none⟩ → OwnV w' q cap (marksV k0 L.length)) ∧ (∀ q, q < w.heap.size → (L ≠ [] → a ≠ some ⟨q, 0, none⟩) → w'.heap[q]? = w.heap[q]?) ∧ Below lo w w' := by
  subst hx
  by_cases e : L = []
  · subst e
    refine (markValS_zero a cap k0 w hk).mono fun e w' h => ?_
    obtain ⟨h1, rfl⟩ := h
    exact ⟨⟨k0, h1, by simp⟩, fun h => absurd rfl h, fun q _ _ => rfl, Below.refl _ _⟩
  · obtain ⟨q, rfl, hl, o⟩ := hq e
    refine (markValS_any q cap k0 L w o hn hk).mono fun _ w' h => ?_
    obtain ⟨h1, h2, h3, h4⟩ := h
    refine ⟨⟨_, h1, rfl⟩, fun _ p hp => ?_, fun p hp hne => h3 p hp (fun e2 => hne e (by rw [e2])), h4.mono hl⟩
    simp only [Option.some.injEq, Addr.mk.injEq, and_true] at hp
    rw [← hp]; exact h2

set_option maxRecDepth 100000 in
set_option maxHeartbeats 3200000 in
theorem markItemS_any (g cp k0 lo : Nat) (K : List It) (w : World) (h0 : HoldsI w lo g cp K) (hlo : lo ≤ w.heap.size) (hn : K.length ≤ 1048580) (hl : ∀ i, i < K.length → (iAt K i).L.length ≤ 1048580) (hk : k0 + totI K K.length ≤ 33554000) :
    Calls Try.prog 72 #[.slice (some ⟨g, 0, none⟩) K.length cp, .int .i64 (k0 : Int)] w fun e w' =>
      (∃ r : Nat, e = .returned (.int .i64 (r : Int)) ∧ r = k0 + totI K K.length) ∧ HoldsI w' lo g cp (partJ K k0 K.length) ∧ (∀ q, q < w.heap.size → Apart K g q → w'.heap[q]? = w.heap[q]?) ∧ Below lo w w' := by
  obtain ⟨n, hN⟩ : ∃ n, n = K.length := ⟨_, rfl⟩
  rw [← hN] at hn ⊢
  have HN := hide hN
  have HK := hide hk
  have HL := hide hl
  have H0 := hide h0
  have hgl := h0.low
  clear hN hk hl h0
  go_enter Try.func72, Try.ntmps72
  go_wp2
  go_loopw [1, 5] (fun kk i wr => ∃ (j m : Nat), j ≤ n ∧ i = .int .i64 j ∧ m = k0 + totI K j ∧ kk = .int .i64 (m : Int) ∧ Mk wr lo g cp K k0 j ∧ (∀ q, q < w.heap.size → Apart K g q → wr.heap[q]? = w.heap[q]?) ∧ Below lo w wr) (fun _ i _ => n - (intOf i).toNat)
  case atStart => exact ⟨0, k0, Nat.zero_le _, rfl, by rw [totI_zero]; rfl, rfl, Mk.zero H0.out k0, fun q _ _ => rfl, Below.refl _ _⟩
  case round =>
    obtain ⟨j, m, hj, rfl, hm, rfl, hmk, hoth, hbel⟩ := hrel
    have HM := hide hm
    have HMk := hide hmk
    have HOth := hide hoth
    have hm2 : m ≤ 33554000 := by
      have h1 := totI_le (K := K) (k := j) (by rw [← HN.out]; exact hj)
      have h2 := HK.out
      omega
    clear hm hoth hmk
    by_cases hlt : j < n
    · have hjK : j < K.length := by rw [← HN.out]; exact hlt
      have hown := HMk.out.own
      rw [← HN.out] at hown
      have hlen : (rowOf It.cells (partJ K k0 j)).length = n * 3 := by rw [rowOf_length It.cells_length, partJ_length, ← HN.out]
      have hmem : ∀ i, i < 3 → ∃ u, wr.cell? ⟨g, j * 3 + i, none⟩ = some u := fun i hi => by
        rw [hown.cellAt (j * 3 + i) (by omega), List.getElem?_eq_getElem (by omega)]
        exact ⟨_, rfl⟩
      obtain ⟨u0, m0⟩ := hmem 0 (by omega)
      obtain ⟨u1, m1⟩ := hmem 1 (by omega)
      rw [Nat.add_zero] at m0
      have hpj : iAt (partJ K k0 j) j = iAt K j := by rw [partJ_at hjK, if_neg (by omega)]
      have hget := rowOf_get It.cells_length (partJ K k0 j) j 2 (by rw [partJ_length]; exact hjK) (by omega)
      rw [← iAt_in (by rw [partJ_length]; exact hjK), hpj] at hget
      have c2 : wr.cell? ⟨g, j * 3 + 2, none⟩ = some (.slice (iAt K j).a (iAt K j).L.length (iAt K j).cap) := by
        rw [hown.cellAt (j * 3 + 2) (by omega), hget]; rfl
      have f0 := hown.frozenAt (j * 3)
      have f1 := hown.frozenAt (j * 3 + 1)
      have s1 := hown.stored (j * 3) (.int .i64 (m : Int))
      have hlt2 := s1.1.lt g rfl
      have c2' : (wr.setCell ⟨g, j * 3, none⟩ (.int .i64 (m : Int))).cell? ⟨g, j * 3 + 2, none⟩ = some (.slice (iAt K j).a (iAt K j).L.length (iAt K j).cap) := by
        rw [s1.1.cellAt (j * 3 + 2) (by omega), List.getElem?_set_ne (by omega), hget]; rfl
      have HS1 := hide s1.1
      have HB1 : Hid (Below lo w (wr.setCell ⟨g, j * 3, none⟩ (.int .i64 (m : Int)))) := hbel.setCell hgl _
      have HO1 : Hid (∀ q, q < wr.heap.size → q ≠ g → (wr.setCell ⟨g, j * 3, none⟩ (.int .i64 (m : Int))).heap[q]? = wr.heap[q]?) := fun q hq hne => s1.2.block q hq (by simp; omega)
      have HZ1 : Hid (wr.heap.size ≤ (wr.setCell ⟨g, j * 3, none⟩ (.int .i64 (m : Int))).heap.size) := s1.2.size
      have HLj := hide (HL.out j hjK)
      clear hmem hlen s1 hget hpj hown c2
      go_wp2_with fail
      refine (markText_i ((m : Int) + 1) (m + 1) _ (by omega) (by omega)).mono ?_
      generalize wr.setCell ⟨g, j * 3, none⟩ (.int .i64 (m : Int)) = w1 at HS1 HB1 HO1 HZ1 c2' hlt2
      rintro e w2 ⟨rfl, hb2⟩
      have ho2 := ownsRow_below HS1.out hb2
      have B2 : Below lo w w2 := HB1.out.trans (hb2.mono (Nat.le_trans hlo HB1.out.size))
      have hget2 : ∀ i, i < 3 → ∃ u, w2.cell? ⟨g, j * 3 + i, none⟩ = some u := fun i hi => by
        have hlen : (((rowOf It.cells (partJ K k0 j)).set (j * 3) (.int .i64 (m : Int)))).length = n * 3 := by rw [List.length_set, rowOf_length It.cells_length, partJ_length, ← HN.out]
        rw [ho2.cellAt (j * 3 + i) (by omega), List.getElem?_eq_getElem (by omega)]
        exact ⟨_, rfl⟩
      obtain ⟨v1, n1⟩ := hget2 1 (by omega)
      have n2 : w2.cell? ⟨g, j * 3 + 2, none⟩ = some (.slice (iAt K j).a (iAt K j).L.length (iAt K j).cap) := by rw [hb2.cell (p := ⟨g, j * 3 + 2, none⟩) hlt2.2]; exact c2'
      have e1 := ho2.frozenAt (j * 3 + 1)
      have s2 := ho2.stored (j * 3 + 1) (.string (markT (m + 1)))
      have hset := rowOf_set2 It.cells_length (markI K k0 j) (.int .i64 (m : Int)) (.string (markT (m + 1))) (.slice (iAt K j).a (iAt K j).L.length (iAt K j).cap) (by unfold markI It.cells; rw [marksV_length, ← HM.out]) (partJ K k0 j) j (by rw [partJ_length]; exact hjK) (by rw [← iAt_in (by rw [partJ_length]; exact hjK), partJ_at hjK, if_neg (by omega)]; rfl)
      rw [partJ_set hjK] at hset
      have HS2 : Hid ((w2.setCell ⟨g, j * 3 + 1, none⟩ (.string (markT (m + 1)))).ownsRow 0 122 3 (.slice (some ⟨g, 0, none⟩) K.length cp) K.length (rowOf It.cells (partJ K k0 (j + 1)))) := by
        have := s2.1
        rw [hset, HN.out] at this
        exact this
      have n2' : (w2.setCell ⟨g, j * 3 + 1, none⟩ (.string (markT (m + 1)))).cell? ⟨g, j * 3 + 2, none⟩ = some (.slice (iAt K j).a (iAt K j).L.length (iAt K j).cap) := by
        have hg2 : ((rowOf It.cells (partJ K k0 j)).set (j * 3) (.int .i64 (m : Int)))[j * 3 + 2]? = some (.slice (iAt K j).a (iAt K j).L.length (iAt K j).cap) := by rw [← ho2.cellAt (j * 3 + 2) (by omega)]; exact n2
        rw [s2.1.cellAt (j * 3 + 2) (by omega), List.getElem?_set_ne (by omega)]; exact hg2
      have HB2 : Hid (Below lo w (w2.setCell ⟨g, j * 3 + 1, none⟩ (.string (markT (m + 1))))) := B2.setCell hgl _
      have HO2 : Hid (∀ q, q < wr.heap.size → q ≠ g → (w2.setCell ⟨g, j * 3 + 1, none⟩ (.string (markT (m + 1)))).heap[q]? = wr.heap[q]?) := fun q hq hne => by
        have hq1 : q < w1.heap.size := Nat.lt_of_lt_of_le hq HZ1.out
        rw [s2.2.block q (Nat.lt_of_lt_of_le hq1 hb2.size) (by simp; omega), hb2.block q hq1]; exact HO1.out q hq hne
      have HZ2 : Hid (wr.heap.size ≤ (w2.setCell ⟨g, j * 3 + 1, none⟩ (.string (markT (m + 1)))).heap.size) := Nat.le_trans HZ1.out (Nat.le_trans hb2.size s2.2.size)
      clear hget2 s2 hset ho2 B2 HS1 HB1 HO1 HZ1 c2' hb2 n2 m0 m1 f0 f1
      generalize markT (m + 1) = tx at HS2 n2' HB2 HO2 HZ2 ⊢
      go_wp2_with fail
      generalize w2.setCell ⟨g, j * 3 + 1, none⟩ (.string tx) = w3 at HS2 n2' HB2 HO2 HZ2 ⊢
      refine (markVals _ _ ((m : Int) + 1 + 1) (m + 2) _ w3 lo (by omega) HLj.out (by omega) (Nat.le_trans hlo HB2.out.size) (fun hne => ?_)).mono ?_
      · obtain ⟨q, h1, h2, h3, o⟩ := HMk.out.vals j hjK hne
        have hpj : iAt (partJ K k0 j) j = iAt K j := by rw [partJ_at hjK, if_neg (by omega)]
        rw [hpj] at o
        exact ⟨q, h1, h2, o.same (HO2.out q o.lt h3)⟩
      rintro e w4 ⟨⟨r, rfl, hr⟩, hv4, ho4, hb4⟩
      have HMk4 : Hid (Mk w4 lo g cp K k0 (j + 1)) := Mk.step H0.out HMk.out hjK HS2.out HZ2.out HO2.out (by rw [← HM.out]; exact hv4) ho4
      have HB4 : Hid (Below lo w w4) := HB2.out.trans hb4
      have HO4 : Hid (∀ q, q < w.heap.size → Apart K g q → w4.heap[q]? = w.heap[q]?) := fun q hq hap => by
        have hqr : q < wr.heap.size := Nat.lt_of_lt_of_le hq hbel.size
        rw [ho4 q (Nat.lt_of_lt_of_le hqr HZ2.out) (fun hne => hap.2 j hjK hne), HO2.out q hqr hap.1]
        exact HOth.out q hq hap
      have HR : Hid (r = k0 + totI K (j + 1)) := by
        unfold Hid
        rw [hr, totI_step hjK, HM.out]; omega
      clear hv4 ho4 hb4 hr HS2 HB2 HO2 HZ2 HMk HOth hbel n2' v1 n1 e1
      go_wp2
      go_roundw
      case rel => exact ⟨j + 1, r, by omega, by go_num, HR.out, rfl, HMk4.out, HO4.out, HB4.out⟩
      case measure => simp [intOf]; omega
    · obtain rfl : j = n := by omega
      have HE : Hid (m = k0 + totI K K.length) := by unfold Hid; rw [HM.out, HN.out]
      have HF : Hid (HoldsI wr lo g cp (partJ K k0 K.length)) := Mk.done H0.out (by rw [← HN.out]; exact HMk.out)
      go_wp2
      go_ret
      exact ⟨⟨m, rfl, by rw [HE.out, HN.out]⟩, by rw [HN.out]; exact HF.out, HOth.out, hbel⟩

set_option maxRecDepth 100000 in
set_option maxHeartbeats 1600000 in
theorem markStore_any (g cp k0 lo n : Nat) (nx : Int) (K : List It) (w : World) (h0 : HoldsI w lo g cp K) (hK : K.length = n) (hlo : lo ≤ w.heap.size) (hn : n ≤ 1048580) (hl : ∀ i, i < K.length → (iAt K i).L.length ≤ 1048580) (hk : k0 + totI K K.length ≤ 33554000) :
    Calls Try.prog 28 #[.agg #[.slice (some ⟨g, 0, none⟩) n cp, .int .i64 nx], .int .i64 (k0 : Int)] w fun e w' =>
      (∃ r : Nat, e = .returned (.int .i64 (r : Int)) ∧ r = k0 + totI K K.length) ∧ HoldsI w' lo g cp (partJ K k0 K.length) ∧ (∀ q, q < w.heap.size → Apart K g q → w'.heap[q]? = w.heap[q]?) ∧ Below lo w w' := by
  subst hK
  have b0 := below_al w (.cells #[.slice (some ⟨g, 0, none⟩) K.length cp, .int .i64 nx] 53)
  go_enter Try.func28, Try.ntmps28
  go_wp2_with fail
  refine (markItemS_any g cp k0 lo K _ (h0.later b0) (Nat.le_trans hlo b0.size) (by omega) hl hk).mono ?_
  rintro e w1 ⟨⟨r, rfl, hr⟩, h1, h2, h3⟩
  have HR := hide hr
  have H1 := hide h1
  have H2 : Hid (∀ q, q < w.heap.size → Apart K g q → w1.heap[q]? = w.heap[q]?) := fun q hq hap => by
    rw [h2 q (Nat.lt_of_lt_of_le hq b0.size) hap, b0.block q hq]
  have B1 : Below lo w w1 := (b0.mono hlo).trans h3
  clear hr h1 h2 h3 b0
  go_wp2
  go_ret
  exact ⟨⟨r, rfl, HR.out⟩, H1.out, H2.out, B1⟩
end Go.Proofs.Ytfgigcdfmkfkjaa
