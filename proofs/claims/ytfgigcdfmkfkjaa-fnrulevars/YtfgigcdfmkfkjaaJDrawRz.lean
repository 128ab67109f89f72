/-
  What l9Bend does to a rule on its way: rows copied, a box of another rule written, a pattern turned Not, the acts cut.
-/
import Derived.Test.YtfgigcdfmkfkjaaJoined4
import Derived.Test.YtfgigcdfmkfkjaaJMatchS
namespace Go.Proofs.Ytfgigcdfmkfkjaa
open Go.RowKit
set_option linter.unusedVariables false
set_option maxRecDepth 100000

theorem ownsRow_baseR {w : World} {base base' n size : Nat} {e : TypeId} {v : Value} {xs : List Value} (h : w.ownsRow base e size v n xs) (hb : base' ≤ base) : w.ownsRow base' e size v n xs := by
  refine ⟨h.1, ?_⟩
  rcases h.2 with h2 | ⟨g, cap, cur, h1, hb', rest⟩
  · exact .inl h2
  · exact .inr ⟨g, cap, cur, h1, by omega, rest⟩
theorem rdK_of_row {α : Type} [Inhabited α] {f : α → List Value} {k : Nat} (hk : ∀ x, (f x).length = k) (hp : 0 < k) {w : World} {base n c : Nat} {T : TypeId} {a : Option Addr} {L : List α} (h : w.ownsRow base T k (.slice a n c) L.length (rowOf f L)) : RdK f k w a L := by
  obtain ⟨a', c', e, hr, -⟩ := rdK_owns hk hp h
  simp only [Value.slice.injEq] at e
  rw [e.1]; exact hr
/-- a row copied: append onto an empty row of the call's own -/
theorem wpList_copyP {w : World} {ops : Array Oper} {rest : List Oper} {o : Oper} {act : Act} {Q : Exit → Act → World → Prop} (hgd : o.guard = none) (s x : Operand)
    (ho : o.op = .call { callee := .builtin .append, args := #[s, x], argTypes := #[45, 45] })
    (base q : Nat) (hs : act.eval s = .slice (some ⟨q, 0, none⟩) 0 0) (hE : w.ownsRow base 79 3 (.slice (some ⟨q, 0, none⟩) 0 0) 0 []) (a3 : Option Addr) (c3 n : Nat) (M0 : List PE) (hn : M0.length = n) (hx : act.eval x = .slice a3 n c3) (hr : RdK PE.cs 3 w a3 M0) (hm : n ≤ 1048576) (hbase : base ≤ w.heap.size)
    (h : ∀ g c w', w'.ownsRow base 79 3 (.slice (some ⟨g, 0, none⟩) n c) n (rowOf PE.cs M0) → w.grownBy w' (some q) → wpList Try.prog ops Q rest (act.put o.dst (.slice (some ⟨g, 0, none⟩) n c)) w') : wpList Try.prog ops Q (o :: rest) act w := by
  obtain ⟨i0, hi, hz0, hz1, hz2⟩ := info_parts infoPat
  subst hn
  by_cases hL : M0 = []
  · subst hL
    refine wpList_append_zeroB hgd s x 45 ho 79 i0 Try.underlying45 hi (some ⟨q, 0, none⟩) 0 0 hs (Nat.le_refl _) a3 c3 hx ?_
    exact h q 0 w hE (World.grownBy.refl _ _)
  · obtain ⟨b, off, rfl, hbw, -⟩ := RdK.open PE.len (by decide) hr (List.length_pos_iff.2 hL)
    have hpos : 0 < M0.length := List.length_pos_iff.2 hL
    refine wpList_append_lies _ hgd s x 45 ho base 79 i0 (.agg #[.string ⟨#[]⟩, .slice none 0 0, .bool false]) 3 48 Try.underlying45 hi hz0 hz1 hz2 rfl (by omega) (.slice (some ⟨q, 0, none⟩) 0 0) 0 [] hs hE ⟨b, off, none⟩ M0.length c3 (rowOf PE.cs M0) hx (rowOf_length PE.len M0) (rdK_src PE.len (by decide) hr) ?one hpos (by unfold maxLen; omega) (by omega) hbase _ rfl ?_
    · intro u hu
      obtain ⟨y, hy, hu2⟩ := List.mem_flatMap.1 hu
      exact onePE y u hu2
    · intro g c w' h1 h2 h3 h4
      rw [Nat.zero_add, List.nil_append] at h1
      have := h g c w' h1 h2
      rw [Nat.zero_add]
      exact this
/-- a row copied: append onto an empty row of the call's own -/
theorem wpList_copyC {w : World} {ops : Array Oper} {rest : List Oper} {o : Oper} {act : Act} {Q : Exit → Act → World → Prop} (hgd : o.guard = none) (s x : Operand)
    (ho : o.op = .call { callee := .builtin .append, args := #[s, x], argTypes := #[46, 46] })
    (base q : Nat) (hs : act.eval s = .slice (some ⟨q, 0, none⟩) 0 0) (hE : w.ownsRow base 162 11 (.slice (some ⟨q, 0, none⟩) 0 0) 0 []) (a3 : Option Addr) (c3 n : Nat) (M0 : List C11) (hn : M0.length = n) (hx : act.eval x = .slice a3 n c3) (hr : RdK C11.cs 11 w a3 M0) (hm : n ≤ 1048576) (hbase : base ≤ w.heap.size)
    (h : ∀ g c w', w'.ownsRow base 162 11 (.slice (some ⟨g, 0, none⟩) n c) n (rowOf C11.cs M0) → w.grownBy w' (some q) → wpList Try.prog ops Q rest (act.put o.dst (.slice (some ⟨g, 0, none⟩) n c)) w') : wpList Try.prog ops Q (o :: rest) act w := by
  obtain ⟨i0, hi, hz0, hz1, hz2⟩ := info_parts Try.info162
  subst hn
  by_cases hL : M0 = []
  · subst hL
    refine wpList_append_zeroB hgd s x 46 ho 162 i0 Try.underlying46 hi (some ⟨q, 0, none⟩) 0 0 hs (Nat.le_refl _) a3 c3 hx ?_
    exact h q 0 w hE (World.grownBy.refl _ _)
  · obtain ⟨b, off, rfl, hbw, -⟩ := RdK.open C11.len (by decide) hr (List.length_pos_iff.2 hL)
    have hpos : 0 < M0.length := List.length_pos_iff.2 hL
    refine wpList_append_lies _ hgd s x 46 ho base 162 i0 (.agg #[.int .i64 0, .int .i64 0, .string ⟨#[]⟩, .int .i64 0, .int .i64 0, .string ⟨#[]⟩, .int .i64 0, .string ⟨#[]⟩, .int .i64 0, .int .i64 0, .string ⟨#[]⟩]) 11 120 Try.underlying46 hi hz0 hz1 hz2 rfl (by omega) (.slice (some ⟨q, 0, none⟩) 0 0) 0 [] hs hE ⟨b, off, none⟩ M0.length c3 (rowOf C11.cs M0) hx (rowOf_length C11.len M0) (rdK_src C11.len (by decide) hr) ?one hpos (by unfold maxLen; omega) (by omega) hbase _ rfl ?_
    · intro u hu
      obtain ⟨y, hy, hu2⟩ := List.mem_flatMap.1 hu
      exact oneC y u hu2
    · intro g c w' h1 h2 h3 h4
      rw [Nat.zero_add, List.nil_append] at h1
      have := h g c w' h1 h2
      rw [Nat.zero_add]
      exact this
/-- a row copied: append onto an empty row of the call's own -/
theorem wpList_copyA {w : World} {ops : Array Oper} {rest : List Oper} {o : Oper} {act : Act} {Q : Exit → Act → World → Prop} (hgd : o.guard = none) (s x : Operand)
    (ho : o.op = .call { callee := .builtin .append, args := #[s, x], argTypes := #[47, 47] })
    (base q : Nat) (hs : act.eval s = .slice (some ⟨q, 0, none⟩) 0 0) (hE : w.ownsRow base 166 5 (.slice (some ⟨q, 0, none⟩) 0 0) 0 []) (a3 : Option Addr) (c3 n : Nat) (M0 : List QE) (hn : M0.length = n) (hx : act.eval x = .slice a3 n c3) (hr : RdK QE.cs 5 w a3 M0) (hm : n ≤ 1048576) (hbase : base ≤ w.heap.size)
    (h : ∀ g c w', w'.ownsRow base 166 5 (.slice (some ⟨g, 0, none⟩) n c) n (rowOf QE.cs M0) → w.grownBy w' (some q) → wpList Try.prog ops Q rest (act.put o.dst (.slice (some ⟨g, 0, none⟩) n c)) w') : wpList Try.prog ops Q (o :: rest) act w := by
  obtain ⟨i0, hi, hz0, hz1, hz2⟩ := info_parts infoActR
  subst hn
  by_cases hL : M0 = []
  · subst hL
    refine wpList_append_zeroB hgd s x 47 ho 166 i0 Try.underlying47 hi (some ⟨q, 0, none⟩) 0 0 hs (Nat.le_refl _) a3 c3 hx ?_
    exact h q 0 w hE (World.grownBy.refl _ _)
  · obtain ⟨b, off, rfl, hbw, -⟩ := RdK.open QE.len (by decide) hr (List.length_pos_iff.2 hL)
    have hpos : 0 < M0.length := List.length_pos_iff.2 hL
    refine wpList_append_lies _ hgd s x 47 ho base 166 i0 (.agg #[.int .i64 0, .string ⟨#[]⟩, .slice none 0 0, .int .i64 0, .string ⟨#[]⟩]) 5 72 Try.underlying47 hi hz0 hz1 hz2 rfl (by omega) (.slice (some ⟨q, 0, none⟩) 0 0) 0 [] hs hE ⟨b, off, none⟩ M0.length c3 (rowOf QE.cs M0) hx (rowOf_length QE.len M0) (rdK_src QE.len (by decide) hr) ?one hpos (by unfold maxLen; omega) (by omega) hbase _ rfl ?_
    · intro u hu
      obtain ⟨y, hy, hu2⟩ := List.mem_flatMap.1 hu
      exact oneQ y u hu2
    · intro g c w' h1 h2 h3 h4
      rw [Nat.zero_add, List.nil_append] at h1
      have := h g c w' h1 h2
      rw [Nat.zero_add]
      exact this
section
variable {w0 W W' : World} {B q b F : Nat} {cs : Array Value} {vP vC vA : Value} {P : List PE} {C : List C11} {A : List QE}
/-- the rows are another one's: a new copy -/
theorem RlW.newP (h : RlW w0 B q b F cs vP P vC C vA A W) (hb : Below W.heap.size W W') {v : Value} (ho : W'.ownsRow b 79 3 v P.length (rowOf PE.cs P)) : RlW w0 B q b F cs v P vC C vA A W' := by
  have h2 := h.later hb
  exact ⟨h2.cur, h2.box, h2.res, ho, h2.rC, h2.rA, h2.iP, h2.iA, h2.gr, h2.far, h2.sP, h2.sC, h2.sA, h2.bsz⟩
theorem RlW.newC (h : RlW w0 B q b F cs vP P vC C vA A W) (hb : Below W.heap.size W W') {v : Value} (ho : W'.ownsRow b 162 11 v C.length (rowOf C11.cs C)) : RlW w0 B q b F cs vP P v C vA A W' := by
  have h2 := h.later hb
  exact ⟨h2.cur, h2.box, h2.res, h2.rP, ho, h2.rA, h2.iP, h2.iA, h2.gr, h2.far, h2.sP, h2.sC, h2.sA, h2.bsz⟩
theorem RlW.newA (h : RlW w0 B q b F cs vP P vC C vA A W) (hb : Below W.heap.size W W') {v : Value} (ho : W'.ownsRow b 166 5 v A.length (rowOf QE.cs A)) : RlW w0 B q b F cs vP P vC C v A W' := by
  have h2 := h.later hb
  exact ⟨h2.cur, h2.box, h2.res, h2.rP, h2.rC, ho, h2.iP, h2.iA, h2.gr, h2.far, h2.sP, h2.sC, h2.sA, h2.bsz⟩
/-- another rule's box is written -/
theorem RlW.ruleBox (h : RlW w0 B q b F cs vP P vC C vA A W) {T : Nat} {xs : Array Value} (hX : W.heap[T]? = some (.cells xs 49 (0, 0))) (hT : b ≤ T) (hTF : T ≠ F) (gr : W.grownBy W' (some T)) : RlW w0 B q b F cs vP P vC C vA A W' := by
  have far := h.far
  have hB := h.cur.1
  exact h.kept gr (h.cur.keep gr (by simp; omega) (fun k hk => by cases hk; omega)) (grown_more h.gr gr (fun k hk => by cases hk; omega)) (by simp; exact hTF) (by simp; omega)
    (fun k e => by cases e; exact row_apart h.rP hX (by decide)) (fun k e => by cases e; exact row_apart h.rC hX (by decide)) (fun k e => by cases e; exact row_apart h.rA hX (by decide))
    (fun p hp k e => by cases e; exact row_apart (h.iP p hp) hX (by decide)) (fun a ha k e => by cases e; exact row_apart (h.iA a ha) hX (by decide))
/-- no acts any more -/
theorem own_cut0 {w : World} {base n k c : Nat} {T : TypeId} {a : Option Addr} {xs : List Value} (h : w.ownsRow base T k (.slice a n c) n xs) (hn : 0 < n) : w.ownsRow base T k (.slice a 0 c) 0 [] := by
  refine ⟨by simp, ?_⟩
  rcases h.2 with ⟨h1, h0⟩ | ⟨g, cap, cur, h1, hb, hg, hnc, hcm, hsz, htake⟩
  · omega
  · simp only [Value.slice.injEq] at h1
    obtain ⟨rfl, -, rfl⟩ := h1
    exact .inr ⟨g, c, cur, rfl, hb, hg, Nat.zero_le _, hcm, hsz, by simp⟩
theorem RlW.cutA {a : Option Addr} {n c : Nat} (h : RlW w0 B q b F cs vP P vC C (.slice a n c) A W) (hn : A.length = n) (h0 : 0 < n) : RlW w0 B q b F cs vP P vC C (.slice a 0 c) [] W := by
  have ho : W.ownsRow b 166 5 (.slice a 0 c) ([] : List QE).length (rowOf QE.cs []) := by
    have := h.rA
    rw [hn] at this
    exact own_cut0 this h0
  exact ⟨h.cur, h.box, h.res, h.rP, h.rC, ho, h.iP, (fun a ha => by cases ha), h.gr, h.far, h.sP, h.sC, (fun a ha => by cases ha), h.bsz⟩
theorem rowOf_setNt (v : Bool) : ∀ (L : List PE), 0 < L.length → (rowOf PE.cs L).set 2 (.bool v) = rowOf PE.cs (L.set 0 { eAt L 0 with nt := v })
  | [], h => absurd h (Nat.lt_irrefl _)
  | y :: r, _ => by rw [List.set_cons_zero, rowOf_cons, rowOf_cons]; rfl
/-- the first pattern turned Not -/
theorem RlW.setNt {g n c : Nat} (h : RlW w0 B q b F cs (.slice (some ⟨g, 0, none⟩) n c) P vC C vA A W) (hn : P.length = n) (h0 : 0 < n) :
    W.grownBy (W.setCell ⟨g, 2, none⟩ (.bool true)) (some g) ∧ RlW w0 B q b F cs (.slice (some ⟨g, 0, none⟩) n c) (P.set 0 { eAt P 0 with nt := true }) vC C vA A (W.setCell ⟨g, 2, none⟩ (.bool true)) := by
  subst hn
  have far := h.far
  have hB := h.cur.1
  have hgb : b ≤ g := (h.rP.lt g rfl).1
  obtain ⟨ho, gr⟩ := h.rP.stored 2 (.bool true)
  rw [rowOf_setNt true P h0] at ho
  have ap : ∀ {T : TypeId} {k m : Nat} {v : Value} {xs : List Value}, W.ownsRow b T k v m xs → T ≠ 79 → ∀ j, some g = some j → v.ownBlock ≠ some j := fun {T k m v xs} hv hT j e => by cases e; exact rows_apart hv h.rP hT rfl
  have hc := h.cur.keep gr (by simp; omega) (fun k hk => by cases hk; omega)
  have hmem : ∀ p ∈ P.set 0 { eAt P 0 with nt := true }, p ∈ P ∨ (p.a = (eAt P 0).a ∧ p.cap = (eAt P 0).cap ∧ p.L = (eAt P 0).L ∧ p.kd = (eAt P 0).kd) := fun p hp => by
    rcases List.mem_or_eq_of_mem_set hp with h1 | h1
    · exact .inl h1
    · rw [h1]; exact .inr ⟨rfl, rfl, rfl, rfl⟩
  have h0m : eAt P 0 ∈ P := by rw [eAt_in h0]; exact List.getElem_mem _
  have hne1 : g ≠ F := fun e => row_apart h.rP h.box (by decide) (by rw [e]; rfl)
  refine ⟨gr, ⟨hc, box_gr h.box gr (fun e => hne1 e.symm), by rw [gr.block _ (Array.getElem?_eq_some_iff.1 h.res).1 (by simp; omega)]; exact h.res, by rw [List.length_set]; exact ho,
    row_kept h.rC gr (ap h.rC (by decide)), row_kept h.rA gr (ap h.rA (by decide)), fun p hp => ?_, fun a ha => row_kept (h.iA a ha) gr (ap (h.iA a ha) (by decide)), grown_more h.gr gr (fun k hk => by cases hk; omega), far, fun p hp => ?_, h.sC, h.sA, Nat.le_trans h.bsz gr.size⟩⟩
  · rcases hmem p hp with h1 | ⟨e1, e2, e3, -⟩
    · exact row_kept (h.iP p h1) gr (ap (h.iP p h1) (by decide))
    · rw [e1, e2, e3]; exact row_kept (h.iP _ h0m) gr (ap (h.iP _ h0m) (by decide))
  · rcases hmem p hp with h1 | ⟨e1, e2, e3, e4⟩
    · exact h.sP p h1
    · have := h.sP _ h0m
      unfold PE.tiny PE.small at *
      rw [e3, e4]; exact this
end
end Go.Proofs.Ytfgigcdfmkfkjaa
