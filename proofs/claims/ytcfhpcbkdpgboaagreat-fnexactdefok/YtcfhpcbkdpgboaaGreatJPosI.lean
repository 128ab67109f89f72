/-
  What the tested functions answer: boundRuleOf has the patterns that are not Not, PosCount how many, PosVars their variables, KindsOf all kinds.
-/
import Derived.Test.YtcfhpcbkdpgboaaGreatJoined2
import Derived.Test.YtcfhpcbkdpgboaaGreatJoined1
namespace Go.Proofs.YtcfhpcbkdpgboaaGreat
open Go.RowKit
set_option linter.unusedVariables false

theorem infoPat : (Tryz.prog.info? 86).map (fun i => (i.zero, i.size, i.bytes)) = some (some (.agg #[.string ⟨#[]⟩, .slice none 0 0, .bool false]), 3, 48) := by kernel_rfl
theorem srcPE (W : World) (x : PE) : ∀ j u, (x.cs)[j]? = some u → (W.alloc (.cells #[.string x.kd, .slice x.a x.L.length x.cap, .bool x.nt] 86)).cell? ((⟨W.heap.size, 0, none⟩ : Addr).add j) = some u := by
  intro j u hj
  rw [Addr.add_lit, Nat.zero_add]
  have hb : (W.alloc (.cells #[.string x.kd, .slice x.a x.L.length x.cap, .bool x.nt] 86)).heap[W.heap.size]? = some (.cells #[.string x.kd, .slice x.a x.L.length x.cap, .bool x.nt] 86 (0, 0)) := by rw [heap_alloc_new]
  rw [cell_of_row _ _ j _ _ (0, 0) hb, ← hj]
  simp [PE.cs]
theorem onePE (x : PE) : ∀ u ∈ x.cs, u.oneCell' = true := by
  intro u hu
  simp only [PE.cs, List.mem_cons, List.not_mem_nil, or_false] at hu
  rcases hu with rfl | rfl | rfl <;> rfl
theorem box6_set {w : World} {q : Nat} {c0 c1 c2 c3 c4 c5 : Value} {T : TypeId} (h : w.heap[q]? = some (.cells #[c0, c1, c2, c3, c4, c5] T (0, 0))) (v0 v1 v2 v3 v4 v5 : Value) :
    ((((((w.setCell ⟨q, 0, none⟩ v0).setCell ⟨q, 1, none⟩ v1).setCell ⟨q, 2, none⟩ v2).setCell ⟨q, 3, none⟩ v3).setCell ⟨q, 4, none⟩ v4).setCell ⟨q, 5, none⟩ v5).heap[q]? = some (.cells #[v0, v1, v2, v3, v4, v5] T (0, 0)) ∧ w.grownBy ((((((w.setCell ⟨q, 0, none⟩ v0).setCell ⟨q, 1, none⟩ v1).setCell ⟨q, 2, none⟩ v2).setCell ⟨q, 3, none⟩ v3).setCell ⟨q, 4, none⟩ v4).setCell ⟨q, 5, none⟩ v5) (some q) := by
  have h0 := boxk_set h 0 v0
  have h1 := boxk_set h0.1 1 v1
  have h2 := boxk_set h1.1 2 v2
  have h3 := boxk_set h2.1 3 v3
  have h4 := boxk_set h3.1 4 v4
  have h5 := boxk_set h4.1 5 v5
  exact ⟨h5.1, grown_tt (grown_tt (grown_tt (grown_tt (grown_tt h0.2 h1.2) h2.2) h3.2) h4.2) h5.2⟩
theorem box6_post {P : Program} {f : Func} {Q : Ending → World → Prop} {x : Exit} {act : Act} {w : World} {q : Nat} {c0 c1 c2 c3 c4 c5 v0 v1 v2 v3 v4 v5 : Value} {T : TypeId} (h : w.heap[q]? = some (.cells #[c0, c1, c2, c3, c4, c5] T (0, 0)))
    (k : ∀ w2, w2.heap[q]? = some (.cells #[v0, v1, v2, v3, v4, v5] T (0, 0)) → w.grownBy w2 (some q) → bodyPost P f Q x act w2) : bodyPost P f Q x act ((((((w.setCell ⟨q, 0, none⟩ v0).setCell ⟨q, 1, none⟩ v1).setCell ⟨q, 2, none⟩ v2).setCell ⟨q, 3, none⟩ v3).setCell ⟨q, 4, none⟩ v4).setCell ⟨q, 5, none⟩ v5) :=
  k _ (box6_set h v0 v1 v2 v3 v4 v5).1 (box6_set h v0 v1 v2 v3 v4 v5).2
theorem field_bound (c0 : ByteArray) (c1 : Int) (a1 a2 a3 a : Option Addr) (n1 n2 n3 n k1 k2 k3 k : Nat) (w : World) : (Instr.field 63 (.agg #[.string c0, .int .i64 c1, .slice a1 n1 k1, .slice a2 n2 k2, .slice a3 n3 k3, .slice a n k]) 1).run Tryz.prog w = .ok (.slice a n k) w := by kernel_rfl
/-- a row of patterns at or behind a world's end, where all that was in that world is left -/
def RowP (w0 : World) (v : Value) (l : List PE) (w : World) : Prop := w.ownsRow w0.heap.size 86 3 v l.length (rowOf PE.cs l) ∧ Below w0.heap.size w0 w
theorem RowP.nil (w : World) : RowP w (.slice none 0 0) [] w := ⟨World.ownsRow_nil _ _ _ _, Below.refl _ _⟩
theorem RowP.alloc {w0 w : World} {v : Value} {l : List PE} (h : RowP w0 v l w) (o : Obj) : RowP w0 v l (w.alloc o) := ⟨h.1.alloc o, h.2.alloc h.2.size o⟩
theorem RowP.later {w0 w w' : World} {v : Value} {l : List PE} (h : RowP w0 v l w) (hb : Below w.heap.size w w') : RowP w0 v l w' := ⟨ownsRow_below' h.1 hb, h.2.trans (hb.mono h.2.size)⟩
theorem RowP.grown {w0 w w' : World} {v : Value} {l : List PE} {q : Nat} (h : RowP w0 v l w) (hg : w.grownBy w' (some q)) (hq : q < w0.heap.size) : w'.ownsRow w0.heap.size 86 3 v l.length (rowOf PE.cs l) :=
  ownsRow_sameD h.1 (fun k hk => hg.block k (h.1.lt k hk).2 (by have := (h.1.lt k hk).1; simp; omega))
/-- what it reads as, its elements' lists lying where they lay at the head -/
theorem RowP.rd {w0 w : World} {a : Option Addr} {n cap : Nat} {l : List PE} (h : RowP w0 (.slice a n cap) l w) (hi : ∀ p ∈ l, RdArg w0 p.a p.L) : RdPatS w a l ∧ l.length = n := by
  obtain ⟨a', c', e, hr, -, -⟩ := rdK_owns PE.len (by decide) h.1
  simp only [Value.slice.injEq] at e
  obtain ⟨rfl, rfl, rfl⟩ := e
  exact ⟨⟨hr, fun i hi' => (hi _ (eAt_mem hi')).below h.2⟩, rfl⟩

set_option maxRecDepth 100000 in
set_option maxHeartbeats 3200000 in
theorem boundRuleOf_any (x : RE) (w : World) (hr : RdRule w x) (hn : x.nP ≤ 1048576) :
    Calls Tryz.prog 31 #[.agg #[.string x.nm, .int .i64 x.sal, .slice x.aP x.nP x.cP, .slice x.aC x.nC x.cC, .slice x.aA x.nA x.cA]] w fun e w' =>
      ∃ a cap, e = .returned (.agg #[.string x.nm, .int .i64 x.sal, .slice x.aP x.nP x.cP, .slice x.aC x.nC x.cC, .slice x.aA x.nA x.cA, .slice a (posB x.P).length cap]) ∧ RdPatS w' a (posB x.P) ∧ Below w.heap.size w w' := by
  obtain ⟨i0, hi, hz0, hz1, hz2⟩ := info_parts infoPat
  have HN := hide hr.np
  have HIn : Hid (∀ p ∈ posB x.P, RdArg w p.a p.L) := fun p hp => by
    obtain ⟨i, hi, rfl⟩ := mem_eAt (List.mem_filter.1 hp).1
    exact hr.p.2 i hi
  obtain ⟨hA, hR, b1⟩ := boxes2 w #[.string x.nm, .int .i64 x.sal, .slice x.aP x.nP x.cP, .slice x.aC x.nC x.cC, .slice x.aA x.nA x.cA] #[.string ⟨#[]⟩, .int .i64 0, .slice none 0 0, .slice none 0 0, .slice none 0 0, .slice none 0 0] 39 63
  have hz : w.heap.size + 1 < ((w.alloc (.cells #[.string x.nm, .int .i64 x.sal, .slice x.aP x.nP x.cP, .slice x.aC x.nC x.cC, .slice x.aA x.nA x.cA] 39)).alloc (.cells #[.string ⟨#[]⟩, .int .i64 0, .slice none 0 0, .slice none 0 0, .slice none 0 0, .slice none 0 0] 63)).heap.size := by simp
  go_enter Tryz.func31, Tryz.ntmps31
  go_wp2
  generalize ((w.alloc (.cells #[.string x.nm, .int .i64 x.sal, .slice x.aP x.nP x.cP, .slice x.aC x.nC x.cC, .slice x.aA x.nA x.cA] 39)).alloc (.cells #[.string ⟨#[]⟩, .int .i64 0, .slice none 0 0, .slice none 0 0, .slice none 0 0, .slice none 0 0] 63)) = w1 at hA hR b1 hz ⊢
  have HA := hide hA
  have HR := hide hR
  clear hA hR
  go_loopw [3, 9] (fun v i wr => ∃ (k : Nat), k ≤ x.nP ∧ i = .int .i64 k ∧ RowP w1 v (posB (x.P.take k)) wr) (fun _ i _ => x.nP - (intOf i).toNat)
  case atStart => exact ⟨0, Nat.zero_le _, rfl, RowP.nil _⟩
  case round =>
    obtain ⟨k, hk, rfl, hrow⟩ := hrel
    have HRow := hide hrow
    obtain ⟨va, vc, e0, -, -, -⟩ := rdK_owns PE.len (by decide) hrow.1
    clear hrow
    have hB : Below w.heap.size w wr := b1.trans (HRow.out.2.mono b1.size)
    by_cases hlt : k < x.nP
    · have hlL : k < x.P.length := by rw [HN.out]; exact hlt
      obtain ⟨b, off, hab, hbw, hc⟩ := (hr.p.below hB).cells (by omega)
      obtain ⟨c0, c1, c2, -⟩ := hc k hlL
      clear hc
      have HT := hide (posB_take hlL)
      have hpl := posB_take_len x.P k
      rw [HN.out] at hpl
      subst e0
      rw [hab]
      obtain ⟨y, hy⟩ : ∃ y, y = eAt x.P k := ⟨_, rfl⟩
      rw [← hy] at c0 c1 c2 HT
      clear hy hlL hab
      generalize posB (x.P.take k) = l at HRow HT hpl ⊢
      have H3 := hide (HRow.out.alloc (.cells #[.string y.kd, .slice y.a y.L.length y.cap, .bool y.nt] 86))
      cases hnt : y.nt
      · rw [hnt] at c2 HT H3
        have H4 := hide (H3.out.alloc (.cells #[.string y.kd, .slice y.a y.L.length y.cap, .bool false] 86))
        have HSrc := hide (srcPE (wr.alloc (.cells #[.string y.kd, .slice y.a y.L.length y.cap, .bool false] 86)) y)
        rw [hnt] at HSrc
        have HZ4 := H4.out.2.size
        clear HRow hB
        go_wp2_with (at_builtin; refine wpList_append_lies _ rfl (.tmp 16) (.tmp 18) 61 rfl w1.heap.size 86 i0 (.agg #[.string ⟨#[]⟩, .slice none 0 0, .bool false]) 3 48 Tryz.underlying61 hi hz0 hz1 hz2 rfl (by omega) (.slice va l.length vc) l.length (rowOf PE.cs l) rfl H4.out.1 ⟨wr.heap.size + 1, 0, none⟩ 1 1 (PE.cs y) ?hx rfl (by simpa using HSrc.out) (onePE y) (by omega) (by unfold maxLen; omega) (by omega) HZ4 _ rfl ?_)
        case hx => simp [Act.eval]
        intro g5 c5 w5 ho5 hg5 hat5 hlt5
        have HF : Hid (RowP w1 (.slice (some ⟨g5, 0, none⟩) (l.length + 1) c5) (posB (x.P.take (k + 1))) w5) := by
          refine ⟨?_, H4.out.2.grown hg5 HZ4 (fun k hk => (H4.out.1.lt k hk).1)⟩
          rw [HT.out, if_neg (by simp), rowOf_append, List.length_append, rowOf_cons, show rowOf PE.cs [] = [] from rfl, List.append_nil]
          exact ho5
        clear ho5 hg5 hat5 hlt5 HSrc H4 H3 HZ4 HT
        go_wp2
        go_roundw
        case rel => exact ⟨k + 1, by omega, by go_num, HF.out⟩
        case measure => simp [intOf]; omega
      · rw [hnt] at c2 HT H3
        have HF : Hid (RowP w1 (.slice va l.length vc) (posB (x.P.take (k + 1))) (wr.alloc (.cells #[.string y.kd, .slice y.a y.L.length y.cap, .bool true] 86))) := by
          unfold Hid
          rw [HT.out, if_pos rfl, List.append_nil]
          exact H3.out
        clear HRow hB H3 HT
        go_wp2
        go_roundw
        case rel => exact ⟨k + 1, by omega, by go_num, HF.out⟩
        case measure => simp [intOf]; omega
    · obtain rfl : k = x.nP := by omega
      have HR2 := hide (box_below HR.out HRow.out.2 hz)
      have HA2 := hide (box_below HA.out HRow.out.2 (by omega))
      subst e0
      have ht : x.P.take x.nP = x.P := by rw [← HN.out, List.take_length]
      rw [ht] at HRow ⊢
      have H2 := hide (box6_set HR2.out (.string x.nm) (.int .i64 x.sal) (.slice x.aP x.nP x.cP) (.slice x.aC x.nC x.cC) (.slice x.aA x.nA x.cA) (.slice va (posB x.P).length vc))
      have a0 := boxk_cell HA2.out 0 _ rfl
      have a1 := boxk_cell HA2.out 1 _ rfl
      have a2 := boxk_cell HA2.out 2 _ rfl
      have a3 := boxk_cell HA2.out 3 _ rfl
      have a4 := boxk_cell HA2.out 4 _ rfl
      have r0 := boxk_cell HR2.out 0 _ rfl
      have r1 := boxk_cell HR2.out 1 _ rfl
      have r2 := boxk_cell HR2.out 2 _ rfl
      have r3 := boxk_cell HR2.out 3 _ rfl
      have r4 := boxk_cell HR2.out 4 _ rfl
      have r5 := boxk_cell HR2.out 5 _ rfl
      have f0 := boxk_frozen HR2.out 0
      have f1 := boxk_frozen HR2.out 1
      have f2 := boxk_frozen HR2.out 2
      have f3 := boxk_frozen HR2.out 3
      have f4 := boxk_frozen HR2.out 4
      have f5 := boxk_frozen HR2.out 5
      go_wp2
      refine box6_post HR2.out (fun w4 h4 gr => ?_)
      clear a0 a1 a2 a3 a4 r0 r1 r2 r3 r4 r5 f0 f1 f2 f3 f4 f5
      have c0 := boxk_cell h4 0 _ rfl
      have c1 := boxk_cell h4 1 _ rfl
      have c2 := boxk_cell h4 2 _ rfl
      have c3 := boxk_cell h4 3 _ rfl
      have c4 := boxk_cell h4 4 _ rfl
      have c5 := boxk_cell h4 5 _ rfl
      have ho := HRow.out.grown gr hz
      have hB4 : Below w.heap.size w w4 := below_set hB gr (by omega)
      refine bodyPost_ret (v := .agg #[.string x.nm, .int .i64 x.sal, .slice x.aP x.nP x.cP, .slice x.aC x.nC x.cC, .slice x.aA x.nA x.cA, .slice va (posB x.P).length vc]) (by simp [results, Tryz.results31, go_sem, c0, c1, c2, c3, c4, c5]) rfl ⟨va, vc, rfl, ?_, hB4⟩
      obtain ⟨a', c', e, hr', -, -⟩ := rdK_owns PE.len (by decide) ho
      simp only [Value.slice.injEq] at e
      rw [e.1]
      exact ⟨hr', fun i hi' => (HIn.out _ (eAt_mem hi')).below hB4⟩

end Go.Proofs.YtcfhpcbkdpgboaaGreat
