/-
  Proved: for every store and every number, the law on FactOf answers true (the tested function answers as its model, writes into no argument, and its answer owns its memory), and both read as they did. No condition.
-/
import Derived.Test.YtjiopefdfkjfkabFactOf
import Derived.Test.YtjiopefdfkjfkabEqStore
import Derived.Test.YtjiopefdfkjfkabMarkSx
import Derived.Test.YtjiopefdfkjfkabHeldF
import Derived.Test.YtjiopefdfkjfkabKeepS
namespace Go.Proofs.Ytjiopefdfkjfkab.ExFactOf
open Go.ChangeShapes Go.WideShapes Go.ChangeAt Go.RowKit Go.Joins
open Go.ChangeMaps (open_string shut_string)
set_option linter.unusedVariables false

/-- the store that came in, in its box, the model's answer in its box, and all that was there -/
structure St (w : World) (a : Option Addr) (n cap : Nat) (nx : Int) (lo X : Nat) (kd : ByteArray) (vw : Value) (L : List V3) (W : World) : Prop where
  bel : Below w.heap.size w W
  box : W.heap[w.heap.size]? = some (.cells #[.slice a n cap, .int .i64 nx] 24 (0, 0))
  xb : W.heap[X]? = some (.cells #[.string kd, vw] 28 (0, 0))
  xl : X < lo
  rw : W.ownsRow 0 69 3 vw L.length (cells3 L)
  lw : ∀ k, vw.ownBlock = some k → k < lo
  sz : lo ≤ W.heap.size
  sl : w.heap.size < lo
theorem St.keepB {w W W' : World} {a : Option Addr} {n cap : Nat} {nx : Int} {lo X : Nat} {kd : ByteArray} {vw : Value} {L : List V3} (h : St w a n cap nx lo X kd vw L W) (hb : Below lo W W') : St w a n cap nx lo X kd vw L W' :=
  ⟨h.bel.trans (hb.mono (Nat.le_of_lt h.sl)), box_below h.box hb h.sl, box_below h.xb hb h.xl, h.xl, ownsRow_same h.rw (fun k hk => hb.block k (h.lw k hk)), h.lw, Nat.le_trans h.sz hb.size, h.sl⟩
theorem St.keep {w W W' : World} {a : Option Addr} {n cap : Nat} {nx : Int} {lo X : Nat} {kd : ByteArray} {vw : Value} {L : List V3} (h : St w a n cap nx lo X kd vw L W) (hb : Below W.heap.size W W') : St w a n cap nx lo X kd vw L W' := h.keepB (hb.mono h.sz)

theorem rdOf {w : World} {base : Nat} {a : Option Addr} {n c : Nat} {L : List V3} (h : w.ownsRow base 69 3 (.slice a n c) n (cells3 L)) : RdV w a L := by
  obtain ⟨a', c', e, hr, _⟩ := rdV_owns h
  simp only [Value.slice.injEq] at e
  rw [e.1]; exact hr
theorem ownsRow_lo0 {w : World} {base n size : Nat} {e : TypeId} {v : Value} {xs : List Value} (h : w.ownsRow base e size v n xs) : w.ownsRow 0 e size v n xs := by
  refine ⟨h.1, ?_⟩
  rcases h.2 with h2 | ⟨g, cap, cur, h1, hb', rest⟩
  · exact .inl h2
  · exact .inr ⟨g, cap, cur, h1, Nat.zero_le _, rest⟩
/-- a row of values lies in no block of another kind -/
theorem tag_ne {w : World} {base n X : Nat} {v : Value} {xs : List Value} {cs : Array Value} {T : TypeId} {fr : Nat × Nat} (h : w.ownsRow base 69 3 v n xs) (hX : w.heap[X]? = some (.cells cs T fr)) (hT : T ≠ 69) : v.ownBlock ≠ some X := by
  intro e
  rcases h.2 with ⟨rfl, _⟩ | ⟨g, cap, cur, rfl, _, hg, _⟩
  · simp [Value.ownBlock] at e
  · simp only [Value.ownBlock, Option.some.injEq] at e
    rw [e, hX] at hg
    simp only [Option.some.injEq, Obj.cells.injEq] at hg
    exact hT hg.2.1
theorem uni {e : Ending} {w : World} {base : Nat} {o : Option (ByteArray × List V3)} {kd : ByteArray} {L : List V3} {b : Bool} (h : GivesF e w base (ansP o)) (hA : ansP o = (kd, L, b)) :
    ∃ a c, e = .returned (.tuple #[.agg #[.string kd, .slice a L.length c], .bool b]) ∧ w.ownsRow base 69 3 (.slice a L.length c) L.length (cells3 L) := by
  rw [hA] at h
  obtain ⟨a, c, he, hv⟩ := h
  exact ⟨a, c, he, hv.1⟩
theorem facP_mem {id : Int} {kd : ByteArray} {L : List V3} : ∀ {P : List P4}, facP P id = some (kd, L) → ∃ p ∈ P, p.L = L
  | [], h => by cases h
  | p :: r, h => by
    unfold facP at h
    split at h
    · simp only [Option.some.injEq, Prod.mk.injEq] at h
      exact ⟨p, by simp, h.2⟩
    · obtain ⟨q, hq, e⟩ := facP_mem h
      exact ⟨q, by simp [hq], e⟩
/-- what is found is no longer than the items' own -/
theorem ansP_len {J : List It} {id : Int} {kd : ByteArray} {L : List V3} {b : Bool} (hA : ansP (facP (J.map It.pl) id) = (kd, L, b)) (hl : ∀ i, i < J.length → (iAt J i).L.length ≤ 1048576) : L.length ≤ 1048576 := by
  cases h : facP (J.map It.pl) id with
  | none =>
    rw [h] at hA
    simp only [ansP, Prod.mk.injEq] at hA
    rw [← hA.2.1]; simp
  | some x =>
    obtain ⟨kd', L'⟩ := x
    rw [h] at hA
    simp only [ansP, Prod.mk.injEq] at hA
    obtain ⟨p, hp, e⟩ := facP_mem h
    obtain ⟨x, hx, rfl⟩ := List.mem_map.1 hp
    obtain ⟨i, hi, rfl⟩ := List.getElem_of_mem hx
    rw [← hA.2.1, ← e, ← iAt_in hi]; exact hl i hi

set_option maxRecDepth 100000 in
set_option maxHeartbeats 6400000 in
theorem walk (a : Option Addr) (len cap : Nat) (J : List It) (nx id : Int) (w : World) (hI : IsItems w a len cap J) (hid : (Lit.int .i64 id).wf = true) :
    Calls Try.prog 3 #[.agg #[.slice a len cap, .int .i64 nx], .int .i64 id] w fun e w' => e = .returned (.bool true) ∧ Below w.heap.size w w' := by
  obtain ⟨rfl, hm, hr, hs⟩ := hI
  clear hid
  have b1 := below_al w (.cells #[.slice a J.length cap, .int .i64 nx] 24)
  obtain ⟨kd, L, bb, hA⟩ : ∃ kd L bb, ansP (facP (J.map It.pl) id) = (kd, L, bb) := ⟨_, _, _, rfl⟩
  have HA := hide hA
  have HRD : Hid (∀ W, Below w.heap.size w W → RdI W a J) := fun W h => hr.below h
  clear hA
  have hA := box2_new w (.slice a J.length cap) (.int .i64 nx) 24
  go_enter Try.func3, Try.ntmps3
  go_wp2_with fail
  generalize w.alloc (.cells #[.slice a J.length cap, .int .i64 nx] 24) = u0 at b1 hA ⊢
  refine (szStore_any a cap J nx 1048576 _ (HRD.out _ b1) hs hm (by omega) (by omega)).mono ?_
  rintro e u1 ⟨⟨r, rfl, hr1⟩, hb1⟩
  replace hA := box_step hA hb1
  replace b1 : Below w.heap.size w u1 := b1.trans (hb1.mono b1.size)
  clear hb1 hr
  rcases hr1 with rfl | ⟨hr2, hr3⟩
  · go_wp2
    go_ret
    exact ⟨rfl, b1⟩
  have hn : J.length ≤ 1048576 := by unfold szSt at hr3; omega
  have HL : Hid (∀ i, i < J.length → (iAt J i).L.length ≤ 1048576) := fun i hi => by
    have := szSt_mem hi
    unfold szI szL at this
    omega
  have HTot : Hid (szSt J ≤ 1048576) := by unfold Hid; omega
  have hLl : L.length ≤ 1048576 := ansP_len HA.out HL.out
  have hKL : ∀ {K : List It}, K.map It.pl = J.map It.pl → ∀ i, i < K.length → (iAt K i).L.length ≤ 1048580 := fun {K} h i hi => by
    rw [(pl_at h hi).2.2]; have := HL.out i (by rw [← pl_len h]; exact hi); omega
  have HKL := hide (fun K => @hKL K)
  have hq0 : (bb != bb) = false := by simp
  have h5 : ¬ (r < 0) := by omega
  clear hr3 hKL
  obtain ⟨x0, x1, -, -⟩ := box2_cell hA
  go_wp2_with fail
  refine (toStore_any a cap J nx u1 (HRD.out _ b1) hn HL.out).mono ?_
  rintro e u2 ⟨K1, g1, rfl, hH1, hpl1, hb2⟩
  have HP1 := hide hpl1
  replace hA := box_step hA hb2
  replace b1 : Below w.heap.size w u2 := b1.trans (hb2.mono b1.size)
  clear hb2 x0 x1 hpl1
  go_wp2_with fail
  refine (specFactOf_any _ J.length J.length nx id K1 u2 hH1.rd (pl_len HP1.out) (by omega) (HKL.out K1 HP1.out)).mono ?_
  rw [HP1.out]
  rintro e u3 ⟨hg, hb3⟩
  obtain ⟨aw, cw, rfl, ow⟩ := uni hg HA.out
  have hA3 := box_step hA hb3
  have B3 : Below w.heap.size w u3 := b1.trans (hb3.mono b1.size)
  clear hg hb3 hA hH1 b1
  have ba := below_al u3 (.cells #[.string kd, .slice aw L.length cw] 28)
  have hX4 := box2_new u3 (.string kd) (.slice aw L.length cw) 28
  have hA4 := box_step hA3 ba
  have ow4 := ownsRow_below ow ba
  have S4 : St w a J.length cap nx (u3.alloc (.cells #[.string kd, .slice aw L.length cw] 28)).heap.size u3.heap.size kd (.slice aw L.length cw) L (u3.alloc (.cells #[.string kd, .slice aw L.length cw] 28)) :=
    ⟨B3.trans (ba.mono B3.size), hA4, hX4, (Array.getElem?_eq_some_iff.1 hX4).1, ownsRow_lo0 ow4, fun k hk => (ow4.lt k hk).2, Nat.le_refl _, (Array.getElem?_eq_some_iff.1 hA4).1⟩
  clear ow ow4 hA3 hA4 hX4 B3 ba
  obtain ⟨x0, x1, -, -⟩ := box2_cell S4.box
  go_wp2_with fail
  generalize hu4 : u3.alloc (.cells #[.string kd, .slice aw L.length cw] 28) = u4 at S4 x0 x1 ⊢
  obtain ⟨X1, HX1⟩ : ∃ X1, Hid (u3.heap.size = X1) := ⟨_, rfl⟩
  obtain ⟨lo, HLo⟩ : ∃ lo, Hid (u4.heap.size = lo) := ⟨_, rfl⟩
  rw [HX1.out] at S4 ⊢
  rw [HLo.out] at S4
  clear hu4 HX1
  refine (toStore_any a cap J nx u4 (HRD.out _ S4.bel) hn HL.out).mono ?_
  rintro e u5 ⟨K2, g2, rfl, hH2, hpl2, hb5⟩
  rw [HLo.out] at hH2
  have HP2 := hide hpl2
  have S5 := S4.keep hb5
  clear hpl2 hb5 S4 x0 x1 HLo
  have ba := below_al u5 (.cells #[.slice (some ⟨g2, 0, none⟩) J.length J.length, .int .i64 nx] 33)
  have hX := box2_new u5 (.slice (some ⟨g2, 0, none⟩) J.length J.length) (.int .i64 nx) 33
  have S6 := S5.keep ba
  replace hH2 := hH2.later ba
  clear S5 ba
  obtain ⟨z0, z1, -, -⟩ := box2_cell hX
  go_wp2_with fail
  generalize u5.alloc (.cells #[.slice (some ⟨g2, 0, none⟩) J.length J.length, .int .i64 nx] 33) = u6 at hX S6 hH2 z0 z1 ⊢
  obtain ⟨X, HXq⟩ : ∃ X, Hid (u5.heap.size = X) := ⟨_, rfl⟩
  rw [HXq.out] at hX z0 z1 ⊢
  refine (implFactOf_any _ J.length J.length nx id K2 u6 hH2.rd (pl_len HP2.out) (by omega) (HKL.out K2 HP2.out) hH2.lies).mono ?_
  rw [HP2.out]
  rintro e u7 ⟨hg, hb7⟩
  obtain ⟨ag, cg, rfl, og⟩ := uni hg HA.out
  have S7 := S6.keep hb7
  have hX7 := box_step hX hb7
  have HAp : Hid (∀ k, Value.ownBlock (.slice ag L.length cg) = some k → Apart K2 g2 k) := fun k hk => hH2.apart_hi (og.lt k hk).1
  have hbg : lo ≤ u6.heap.size := S6.sz
  have HAY : Hid (Apart K2 g2 u7.heap.size) := hH2.apart_hi hb7.size
  replace hH2 := hH2.later hb7
  obtain ⟨bg, Hbg⟩ : ∃ bg, Hid (u6.heap.size = bg) := ⟨_, rfl⟩
  rw [Hbg.out] at og hbg
  have hbg7 : bg ≤ u7.heap.size := by rw [← Hbg.out]; exact hb7.size
  clear hg hb7 S6 hX z0 z1
  have ba := below_al u7 (.cells #[.string kd, .slice ag L.length cg] 28)
  have hY8 := box2_new u7 (.string kd) (.slice ag L.length cg) 28
  have S8 := S7.keep ba
  have hX8 := box_step hX7 ba
  have og8 := ownsRow_below og ba
  replace hH2 := hH2.later ba
  have hbg8 := Nat.le_trans hbg7 ba.size
  clear S7 hX7 og ba
  obtain ⟨y0, y1, -, -⟩ := box2_cell hY8
  obtain ⟨x0, x1, -, -⟩ := box2_cell S8.xb
  go_wp2_with fail
  generalize u7.alloc (.cells #[.string kd, .slice ag L.length cg] 28) = u8 at hY8 S8 hX8 og8 hH2 hbg8 y0 y1 x0 x1 ⊢
  obtain ⟨Y, HYq⟩ : ∃ Y, Hid (u7.heap.size = Y) := ⟨_, rfl⟩
  rw [HYq.out] at hY8 y0 y1 HAY hbg7 ⊢
  refine (eqFact_same kd ag aw cg cw L _ (rdOf og8) (rdOf S8.rw) (by omega)).mono ?_
  rintro e u9 ⟨rfl, hb9⟩
  have S9 := S8.keep hb9
  have hX9 := box_step hX8 hb9
  have hY9 := box_step hY8 hb9
  have og9 := ownsRow_below og8 hb9
  replace hH2 := hH2.later hb9
  have hbg9 := Nat.le_trans hbg8 hb9.size
  clear hb9 S8 hX8 hY8 og8 hbg8 y0 y1 x0 x1
  obtain ⟨x0, x1, -, -⟩ := box2_cell S9.box
  obtain ⟨z0, z1, -, -⟩ := box2_cell hX9
  have C9 : SC w a lo g2 J.length J K2 u9 := ⟨HRD.out _ S9.bel, hH2, S9.bel⟩
  go_wp2_with fail
  go_region_held3 (fun W => W.cell? ⟨w.heap.size, 0, none⟩ = some (.slice a J.length cap) ∧ W.cell? ⟨w.heap.size, 1, none⟩ = some (.int .i64 nx) ∧ W.cell? ⟨X, 0, none⟩ = some (.slice (some ⟨g2, 0, none⟩) J.length J.length) ∧ W.cell? ⟨X, 1, none⟩ = some (.int .i64 nx) ∧ SC w a lo g2 J.length J K2 W) (first | exact ⟨x0, x1, z0, z1, C9.drew⟩ | exact keep4 SC.keep (by assumption) (by assumption))
    (first | (go_at_call 8; refine (toStore_any _ _ J _ _ (SC.rdi (by assumption)) hn HL.out).mono ?_; rintro e w7 ⟨K3, g7, rfl, hH3, hpl3, hb7⟩) | (go_at_call 11; refine (eqStore_same _ _ _ _ _ _ K2 K3 _ (SC.cp (by assumption)) hH3.rd (pl_len HP2.out) (HP2.out.trans hpl3.symm) (by omega) (HKL.out K2 HP2.out)).mono ?_; rintro e w8 ⟨rfl, hb8⟩))
  all_goals
    have B78 := below_step (below_dr hb7) hb8
    have S10 := S9.keep B78
    have hX10 := box_step hX9 B78
    have hY10 := box_step hY9 B78
    have hH10 := hH2.later B78
    have og10 := ownsRow_below og9 B78
    have hbg10 : bg ≤ w8.heap.size := Nat.le_trans hbg9 B78.size
    clear hb7 hb8 B78 hH3 hpl3 C9 x0 x1 z0 z1 S9 hX9 hY9 hH2 og9 hbg9
    obtain ⟨z0, z1, -, -⟩ := box2_cell hX10
    go_wp2_with fail
    refine (markStore_any g2 J.length 1 lo J.length nx K2 w8 hH10 (pl_len HP2.out) S10.sz (by omega) (HKL.out K2 HP2.out) (by have h1 := totI_sz HP2.out; have h2 := HTot.out; omega)).mono ?_
    rintro e v1 ⟨⟨m, rfl, hm1⟩, -, hfr, hbl⟩
    have S11 := S10.keepB hbl
    have og11 := ownsRow_same og10 (fun k hk => hfr k (og10.lt k hk).2 (HAp.out k hk))
    have hY11 : v1.heap[Y]? = some (.cells #[.string kd, .slice ag L.length cg] 28 (0, 0)) := by rw [hfr Y (Array.getElem?_eq_some_iff.1 hY10).1 HAY.out]; exact hY10
    have hbg11 : bg ≤ v1.heap.size := Nat.le_trans hbg10 hbl.size
    have q1 : ¬ ((m : Int) < 0) := by omega
    clear hm1 hfr hbl S10 og10 hH10 hX10 hY10 z0 z1 hbg10
    obtain ⟨y0, y1, -, -⟩ := box2_cell hY11
    obtain ⟨x0, x1, -, -⟩ := box2_cell S11.xb
    go_wp2_with fail
    refine (eqFact_same kd ag aw cg cw L _ (rdOf og11) (rdOf S11.rw) (by omega)).mono ?_
    rintro e v2 ⟨rfl, hb2⟩
    have S12 := S11.keep hb2
    have hY12 := box_step hY11 hb2
    have og12 := ownsRow_below og11 hb2
    have hbg12 : bg ≤ v2.heap.size := Nat.le_trans hbg11 hb2.size
    clear hb2 S11 og11 hbg11 hY11 y0 y1 x0 x1
    obtain ⟨y0, y1, -, -⟩ := box2_cell hY12
    have ne2 := tag_ne og12 hY12 (by decide)
    go_wp2_with fail
    refine (markFact_row kd bg _ L v2 og12 (by omega)).mono ?_
    rintro e v3 ⟨⟨m2, rfl, hm2⟩, og13, hoth, hbl⟩
    have S13 := S12.keepB ((hbl hbg12).mono hbg)
    have hY13 : v3.heap[Y]? = some (.cells #[.string kd, .slice ag L.length cg] 28 (0, 0)) := by rw [hoth Y (Array.getElem?_eq_some_iff.1 hY12).1 ne2]; exact hY12
    clear S12 hY12 og12 hoth hbl ne2 y0 y1 hbg12
    obtain ⟨y0, y1, -, -⟩ := box2_cell hY13
    go_wp2_with fail
    refine (heldFact_any kd ag cg 1 L.length v3 (rdOf og13) (by omega) (by omega)).mono ?_
    rintro e v4 ⟨⟨r4, rfl, hr4⟩, b4⟩
    obtain rfl : r4 = m2 := by omega
    have S14 := S13.keep b4
    have hY14 := box_step hY13 b4
    have og14 := ownsRow_below og13 b4
    clear S13 hY13 og13 b4 y0 y1
    have q4 : ¬ ((r4 : Int) < 0) := by omega
    have q5 : ((r4 : Int) != (r4 : Int)) = false := by simp
    obtain ⟨x0, x1, -, -⟩ := box2_cell S14.box
    go_wp2_with fail
    refine (toStore_any a cap J nx v4 (HRD.out _ S14.bel) hn HL.out).mono ?_
    rintro e v5 ⟨K5, g5, rfl, hH5, hpl5, hb5⟩
    have HP5 := hide hpl5
    have S15 := S14.keep hb5
    have hY15 := box_step hY14 hb5
    have og15 := ownsRow_below og14 hb5
    clear hpl5 hb5 S14 og14 hY14 x0 x1
    go_wp2_with fail
    refine (implFactOf_any _ J.length J.length nx id K5 v5 hH5.rd (pl_len HP5.out) (by omega) (HKL.out K5 HP5.out) hH5.lies).mono ?_
    rw [HP5.out]
    rintro e v6 ⟨hg6, hb6⟩
    obtain ⟨ah, ch, rfl, oh⟩ := uni hg6 HA.out
    have S16 := S15.keep hb6
    have hY16 := box_step hY15 hb6
    have og16 := ownsRow_below og15 hb6
    clear hg6 hb6 S15 og15 hY15 hH5
    have ba := below_al v6 (.cells #[.string kd, .slice ah L.length ch] 28)
    have hH := box2_new v6 (.string kd) (.slice ah L.length ch) 28
    have S17 := S16.keep ba
    have hY17 := box_step hY16 ba
    have og17 := ownsRow_below og16 ba
    have oh17 := ownsRow_below oh ba
    clear S16 og16 oh hY16 ba
    obtain ⟨y0, y1, -, -⟩ := box2_cell hH
    obtain ⟨x0, x1, -, -⟩ := box2_cell S17.xb
    go_wp2_with fail
    generalize v6.alloc (.cells #[.string kd, .slice ah L.length ch] 28) = v7 at S17 hY17 og17 oh17 y0 y1 x0 x1 ⊢
    refine (eqFact_same kd ah aw ch cw L _ (rdOf oh17) (rdOf S17.rw) (by omega)).mono ?_
    rintro e v8 ⟨rfl, hb8⟩
    have S18 := S17.keep hb8
    have hY18 := box_step hY17 hb8
    have og18 := ownsRow_below og17 hb8
    clear hb8 S17 og17 oh17 hY17 hH y0 y1 x0 x1
    obtain ⟨y0, y1, -, -⟩ := box2_cell hY18
    go_wp2_with fail
    refine (heldFact_any kd ag cg 1 L.length v8 (rdOf og18) (by omega) (by omega)).mono ?_
    rintro e v9 ⟨⟨r9, rfl, hr9⟩, b9⟩
    obtain rfl : r9 = r4 := by omega
    have S19 := S18.keep b9
    clear S18 y0 y1 b9
    go_wp2
    go_ret
    exact ⟨rfl, S19.bel⟩

theorem own : ownKnob Try.prog.godebug = none := by kernel_rfl
theorem laidOut : laidOutB Try.prog = true := by kernel_rfl

set_option maxRecDepth 100000 in
theorem lifted (os : Os) (started : os.Started) (H : Type) (enc : TypeId × Value → H) :
    ReturnsInHanded {} Try.checked os 3 .any (Rows.fnExactFactOfSpec.pre6 enc Try.prog Try.f3 Rows.fnExactFactOfRow.domain false) (Rows.fnExactFactOfSpec.post enc Try.prog Try.f3 false true false false) := by
  refine returnsInHanded_of_change (C := Try.checked) own started (by kernel_rfl) Try.func3
    (ChangeSpec.witness6 (enc := enc) (C := Try.checked) false ⟨#[], #[.agg #[.slice none 0 0, .int .i64 0], .int .i64 0], []⟩ 8 (by kernel_rfl) (by kernel_rfl) (by kernel_rfl) (by kernel_rfl)) ?_
  intro W base args ds gs before hval0 hW hcnd _
  have hval : ∀ (j : Nat) t v, Try.f3.params[j]? = some t → args[j]? = some v → Value.okWide Try.prog W .any base t v := hval0
  have hW' := hW
  obtain ⟨p, q, hA0, hV, rfl, hfz, hnd⟩ := hW
  have hA : DataW.TrodAll enc Try.prog W 0 (fun _ => true) true Try.f3.params.toList args.toList ds p := hA0
  rw [Try.params3] at hA hval
  obtain ⟨v0, vs0, d0, ds0, p0, q0, hargs, rfl, rfl, h0, r0⟩ := trodAll_cons hA
  obtain ⟨v1, vs1, d1, ds1, p1, q1, rfl, rfl, rfl, h1, r1⟩ := trodAll_cons r0
  obtain ⟨rfl, rfl, rfl⟩ := trodAll_nil r1
  obtain rfl : args = #[v0, v1] := by cases args; simp_all
  obtain ⟨rfl, rfl⟩ := trodVars_none hV
  have k0 := h0
  have lt0 : ∀ x ∈ p0, x.block < W.heap.size := by obtain ⟨m, hm⟩ := k0; exact DataW.trod_lt m _ _ _ hm
  obtain ⟨c0a, c0b, y0a, y0b, m0, rfl, _, _, hy0a, hy0b⟩ := open_agg2 Try.underlying24 (by kernel_rfl) (by kernel_rfl) (hval 0 24 v0 rfl rfl) h0
  obtain ⟨N0, eN0, _, _⟩ := DataW.trod_int Try.underlying3 hy0b
  simp only [List.cons.injEq, and_true] at eN0
  subst eN0
  obtain ⟨a0, len0, cap0, J0, rfl, w0⟩ := items_in hy0a
  obtain ⟨a1, rfl, rfl, rfl, w1⟩ := open_int Try.underlying3 (hval 1 3 v1 rfl rfl) h1
  clear hA0 hval0
  refine (walk a0 len0 cap0 J0 N0 a1 W w0 w1).mono fun e W' ⟨he, bel⟩ => ?_
  subst he
  exact ⟨_, rfl, _, _, _, [], _, [], hW', trodAll_mk1 (shut_bool Try.underlying4 _), (trodAll_cons_mk (Below.trod laidOut (by kernel_rfl) (of_decide_eq_true (by kernel_rfl)) k0 bel lt0) (trodAll_cons_mk (shut_int Try.underlying3 w1) trodAll_mk0)), rfl, bel.frame _, fun h => by cases h⟩

theorem over : Rows.fnExactFactOfRow.holds Try.pinned (OpenSpec.ofChange Rows.fnExactFactOfSpec) :=
  OpenClaim.holds_of_wide 3 Try.f3 rfl rfl rfl rfl rfl rfl rfl ⟨rfl, rfl, rfl, rfl, rfl⟩ rfl rfl rfl rfl rfl (by kernel_rfl) Try.func3 (by kernel_rfl)
    (of_decide_eq_true (by kernel_rfl)) (by unfold Func.isWrapper; first | (rw [if_pos (by decide +kernel)]; kernel_rfl) | (rw [if_neg (by decide +kernel)]; exact ⟨rfl, rfl⟩))
    (fun os started H enc _ => lifted os started H enc)
end Go.Proofs.Ytjiopefdfkjfkab.ExFactOf
namespace Go.Proofs.Ytjiopefdfkjfkab
theorem fnExactFactOf_holds : Rows.FnExactFactOfSaid := ExFactOf.over
#print axioms fnExactFactOf_holds
end Go.Proofs.Ytjiopefdfkjfkab
