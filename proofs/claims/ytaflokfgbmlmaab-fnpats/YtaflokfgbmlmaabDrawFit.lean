/-
  The contract of the draw of a pattern, a fact that it matches mostly, and binds: some, whatever they are, with short texts.
-/
import Derived.Test.YtaflokfgbmlmaabDrawP
import Derived.Test.YtaflokfgbmlmaabDrawPt
import Derived.Test.YtaflokfgbmlmaabMatchI
import Derived.Test.YtaflokfgbmlmaabDrawF
namespace Go.Proofs.Ytaflokfgbmlmaab
open Go.RowKit
set_option linter.unusedVariables false

/-- a pattern drawn, its block P; a fact on the way, its block F -/
structure Fit (w0 : World) (q b P F : Nat) (kd : ByteArray) (pv fv : Value) (L : List A5) (M : List V3) (W : World) : Prop where
  cur : Cur w0.heap.size W q
  pbox : W.heap[P]? = some (.cells #[.string kd, pv, .bool false] 55 (0, 0))
  fbox : W.heap[F]? = some (.cells #[.string kd, fv] 29 (0, 0))
  prow : W.ownsRow b 67 5 pv L.length (rowOf A5.cs L)
  frow : W.ownsRow (F + 1) 63 3 fv M.length (cells3 M)
  res1 : W.heap[w0.heap.size]? = some (.cells #[.string ⟨#[]⟩, .slice none 0 0, .bool false] 55 (0, 0))
  res2 : W.heap[w0.heap.size + 1]? = some (.cells #[.string ⟨#[]⟩, .slice none 0 0] 29 (0, 0))
  bel : Below w0.heap.size w0 W
  ord : w0.heap.size + 2 ≤ q ∧ q < b ∧ b ≤ P ∧ P < F
  plt : ∀ k, pv.ownBlock = some k → k < P
  small : ∀ v ∈ M, v.S.size ≤ 1048576
theorem Fit.lt {w0 W : World} {q b P F : Nat} {kd : ByteArray} {pv fv : Value} {L : List A5} {M : List V3} (h : Fit w0 q b P F kd pv fv L M W) : F < W.heap.size := (Array.getElem?_eq_some_iff.1 h.fbox).1
/-- a step that touches block j alone, which is none of theirs, and leaves the cursor -/
theorem Fit.grown {w0 W W' : World} {q b P F : Nat} {kd : ByteArray} {pv fv : Value} {L : List A5} {M : List V3} (h : Fit w0 q b P F kd pv fv L M W) (c : Cur w0.heap.size W' q) {row : Option Nat} (g : W.grownBy W' row) (hr : ∀ j, row = some j → j = q ∨ (F < j ∧ fv.ownBlock ≠ some j)) : Fit w0 q b P F kd pv fv L M W' := by
  have o := h.ord
  have nb : ∀ k, k ≠ q → k ≤ F → row ≠ some k := fun k h1 h2 e => by rcases hr k e with h3 | h3 <;> omega
  refine ⟨c, ?_, ?_, ?_, ?_, ?_, ?_, ?_, h.ord, h.plt, h.small⟩
  · rw [g.block P (Array.getElem?_eq_some_iff.1 h.pbox).1 (fun e => nb P (by omega) (by omega) e.symm)]; exact h.pbox
  · rw [g.block F (Array.getElem?_eq_some_iff.1 h.fbox).1 (fun e => nb F (by omega) (by omega) e.symm)]; exact h.fbox
  · refine h.prow.kept g ?_
    cases hv : pv.ownBlock with
    | none => exact .inl rfl
    | some k =>
      right
      intro e
      have h1 := h.plt k hv
      have h2 := (h.prow.lt k hv).1
      exact nb k (by omega) (by omega) e.symm
  · refine h.frow.kept g ?_
    cases hv : fv.ownBlock with
    | none => exact .inl rfl
    | some k =>
      right
      intro e
      have h2 := (h.frow.lt k hv).1
      rcases hr k e.symm with h3 | h3
      · omega
      · exact h3.2 hv
  · rw [g.block _ (Array.getElem?_eq_some_iff.1 h.res1).1 (fun e => nb _ (by omega) (by omega) e.symm)]; exact h.res1
  · rw [g.block _ (Array.getElem?_eq_some_iff.1 h.res2).1 (fun e => nb _ (by omega) (by omega) e.symm)]; exact h.res2
  · exact h.bel.grown g h.bel.size (fun k hk => by rcases hr k hk with h3 | h3 <;> omega)
theorem Fit.draws {w0 W W' : World} {q b P F : Nat} {kd : ByteArray} {pv fv : Value} {L : List A5} {M : List V3} (h : Fit w0 q b P F kd pv fv L M W) (c : Cur w0.heap.size W' q) (g : W.grownBy W' (some q)) : Fit w0 q b P F kd pv fv L M W' :=
  h.grown c g (fun j hj => by cases hj; exact .inl rfl)
theorem Fit.alloc {w0 W : World} {q b P F : Nat} {kd : ByteArray} {pv fv : Value} {L : List A5} {M : List V3} (h : Fit w0 q b P F kd pv fv L M W) (o : Obj) : Fit w0 q b P F kd pv fv L M (W.alloc o) :=
  h.grown (h.cur.keep (World.grownBy_alloc W o none) (by simp) (by simp)) (World.grownBy_alloc W o none) (fun j hj => by cases hj)
theorem Fit.drew {w0 W : World} {q b P F : Nat} {kd : ByteArray} {pv fv : Value} {L : List A5} {M : List V3} (h : Fit w0 q b P F kd pv fv L M W) : Fit w0 q b P F kd pv fv L M W.drew :=
  ⟨h.cur, h.pbox, h.fbox, h.prow, h.frow, h.res1, h.res2, h.bel.drew, h.ord, h.plt, h.small⟩
theorem row_keep {w w' : World} {base q n size : Nat} {e : TypeId} {v : Value} {xs : List Value} (h : w.ownsRow base e size v n xs) (g : w.grownBy w' (some q)) (hq : q < base) : w'.ownsRow base e size v n xs := by
  refine h.kept g ?_
  cases hv : v.ownBlock with
  | none => exact .inl rfl
  | some k =>
    right
    intro e
    have := (h.lt k hv).1
    cases e; omega
/-- a value appended, and the row stored into the fact -/
theorem Fit.grew {w0 W W' : World} {q b P F g cap : Nat} {kd : ByteArray} {pv fv : Value} {L : List A5} {M : List V3} {u : V3} (h : Fit w0 q b P F kd pv fv L M W) (hu : u.S.size ≤ 1048576)
    (ho : W'.ownsRow (F + 1) 63 3 (.slice (some ⟨g, 0, none⟩) (M.length + 1) cap) (M.length + 1) (cells3 M ++ [.int .i64 u.K, .int .i64 u.N, .string u.S])) (hg : W.grownBy W' fv.ownBlock) :
    W'.cell? ⟨F, 1, none⟩ = some fv ∧ W'.frozen? ⟨F, 1, none⟩ = false ∧ Fit w0 q b P F kd pv (.slice (some ⟨g, 0, none⟩) (M.length + 1) cap) L (M ++ [u]) (W'.setCell ⟨F, 1, none⟩ (.slice (some ⟨g, 0, none⟩) (M.length + 1) cap)) := by
  have o := h.ord
  have nb : ∀ k, k ≤ F → fv.ownBlock ≠ some k := fun k h1 e => by have := (h.frow.lt k e).1; omega
  have kp : ∀ k x, k ≤ F → W.heap[k]? = some x → W'.heap[k]? = some x := fun k x h1 h2 => by rw [hg.block k (Array.getElem?_eq_some_iff.1 h2).1 (fun e => nb k h1 e.symm)]; exact h2
  have fb := kp F _ (Nat.le_refl _) h.fbox
  obtain ⟨-, c1, -, f1⟩ := box2_cell fb
  obtain ⟨hb2, gr2⟩ := box2_set1 fb (.slice (some ⟨g, 0, none⟩) (M.length + 1) cap)
  have hgF : F + 1 ≤ g := (ho.lt g rfl).1
  have c2 : Cur w0.heap.size W' q := h.cur.keep hg (nb q (by omega)) (fun k hk => by have := (h.frow.lt k hk).1; omega)
  have pr : W'.ownsRow b 67 5 pv L.length (rowOf A5.cs L) := by
    refine h.prow.kept hg ?_
    cases hv : pv.ownBlock with
    | none => exact .inl rfl
    | some k =>
      right
      intro e
      exact nb k (by have := h.plt k hv; omega) e.symm
  refine ⟨c1, f1, c2.keep gr2 (by simp; omega) (fun k hk => by cases hk; omega), box_grown (kp P _ (by omega) h.pbox) gr2 (by omega), hb2, ?_, ?_, box_grown (kp _ _ (by omega) h.res1) gr2 (by omega), box_grown (kp _ _ (by omega) h.res2) gr2 (by omega), ?_, o, h.plt, ?_⟩
  · refine pr.kept gr2 ?_
    cases hv : pv.ownBlock with
    | none => exact .inl rfl
    | some k =>
      right
      intro e
      have := h.plt k hv
      cases e; omega
  · have := ho.kept gr2 (.inr (by simp [Value.ownBlock]; omega))
    rw [app3] at this
    rw [List.length_append]
    exact this
  · have b1 : Below w0.heap.size w0 W' := h.bel.grown hg h.bel.size (fun k hk => by have := (h.frow.lt k hk).1; omega)
    exact b1.grown gr2 b1.size (fun k hk => by cases hk; omega)
  · intro x hx
    rcases List.mem_append.1 hx with hx | hx
    · exact h.small x hx
    · simp only [List.mem_cons, List.not_mem_nil, or_false] at hx
      rw [hx]; exact hu

/-- some pattern, fact and binds were drawn -/
def DrawnFit (w : World) (e : Ending) (w' : World) : Prop := ∃ (kd : ByteArray) (a1 : Option Addr) (c1 : Nat) (L : List A5) (a2 : Option Addr) (c2 : Nat) (M : List V3) (g c : Nat) (R : List B4),
  e = .returned (.tuple #[.agg #[.string kd, .slice a1 L.length c1, .bool false], .agg #[.string kd, .slice a2 M.length c2], .slice (some ⟨g, 0, none⟩) R.length c]) ∧ L.length ≤ 2 ∧ M.length ≤ 2 ∧ R.length ≤ 3 ∧
  (∀ x ∈ L, x.small) ∧ (∀ u ∈ M, u.S.size ≤ 1048576) ∧ (∀ x ∈ R, x.small) ∧ RdArg w' a1 L ∧ RdV w' a2 M ∧ RdBind w' (some ⟨g, 0, none⟩) R ∧ R.length ≤ c ∧ Below w.heap.size w w'

set_option maxRecDepth 100000 in
set_option maxHeartbeats 6400000 in
theorem drawFitting_any (a : Option Addr) (cap : Nat) (code : List UInt8) (w : World) (hr : Rd w a code) (hn : code.length ≤ 1048576) :
    Calls Try.prog 26 #[.slice a code.length cap] w (DrawnFit w) := by
  obtain ⟨i0, hi, hz0, hz1, hz2⟩ := info_parts Try.info63
  go_enter Try.func26, Try.ntmps26
  go_wp2_with fail
  have b1 := (Below.refl w.heap.size w).alloc (Nat.le_refl _) (.cells #[.string ⟨#[]⟩, .slice none 0 0, .bool false] 55)
  have b2 := b1.alloc b1.size (.cells #[.string ⟨#[]⟩, .slice none 0 0] 29)
  have r1 := box_old (boxk_new w #[.string ⟨#[]⟩, .slice none 0 0, .bool false] 55) (by simp) (.cells #[.string ⟨#[]⟩, .slice none 0 0] 29)
  have r2 := boxk_new (w.alloc (.cells #[.string ⟨#[]⟩, .slice none 0 0, .bool false] 55)) #[.string ⟨#[]⟩, .slice none 0 0] 29
  have z2 : ((w.alloc (.cells #[.string ⟨#[]⟩, .slice none 0 0, .bool false] 55)).alloc (.cells #[.string ⟨#[]⟩, .slice none 0 0] 29)).heap.size = w.heap.size + 1 + 1 := by simp
  simp only [World.size_alloc] at r2
  generalize (w.alloc (.cells #[.string ⟨#[]⟩, .slice none 0 0, .bool false] 55)).alloc (.cells #[.string ⟨#[]⟩, .slice none 0 0] 29) = w0 at b2 r1 r2 z2 ⊢
  clear b1
  refine (l1New_any w.heap.size a cap code w0 (hr.toB.below b2) hn b2.size).mono ?_
  rintro e w1 ⟨rfl, c1, g1⟩
  rw [z2] at c1 ⊢
  have q1 := c1.lt
  have R1 := hide (show w1.heap[w.heap.size]? = _ from (g1.block _ (by omega) (by simp)).trans r1)
  have R2 := hide (show w1.heap[w.heap.size + 1]? = _ from (g1.block _ (by omega) (by simp)).trans r2)
  have B1 : Below w.heap.size w w1 := b2.trans ((((Below.refl _ _).grown g1 (Nat.le_refl _) (fun k hk => by cases hk))).mono b2.size)
  clear r1 r2 b2 g1
  go_wp2_with fail
  refine (l6Draw_any w.heap.size (w.heap.size + 1 + 1) false w1 c1).mono ?_
  rintro e w2 ⟨kd, pv, L, rfl, hL, hkd, hsm, o2, c2, g2⟩
  have R1' := hide (box_grown R1.out g2 (by omega))
  have R2' := hide (box_grown R2.out g2 (by omega))
  have B2 : Below w.heap.size w w2 := B1.grown g2 B1.size (fun k hk => by cases hk; omega)
  have s2 := g2.size
  have HSm := hide hsm
  have HLt := hide (fun k hk => (o2.lt k hk).2)
  clear R1 R2 g2 B1 c1 hsm
  obtain ⟨ap, cp, rfl, -, -, -, -⟩ := rdK_owns A5.len (by decide) o2
  have D0 : Fit w (w.heap.size + 1 + 1) w1.heap.size w2.heap.size (w2.heap.size + 1) kd (.slice ap L.length cp) (.slice none 0 0) L [] ((w2.alloc (.cells #[.string kd, .slice ap L.length cp, .bool false] 55)).alloc (.cells #[.string kd, .slice none 0 0] 29)) := by
    refine ⟨(c2.keep (World.grownBy_alloc w2 _ none) (by simp) (by simp)).keep (World.grownBy_alloc _ _ none) (by simp) (by simp), box_alloc (boxk_new w2 _ _) _, ?_, (o2.alloc _).alloc _, World.ownsRow_nil _ _ _ _, box_alloc (box_alloc R1'.out _) _, box_alloc (box_alloc R2'.out _) _, ?_, ⟨by omega, by omega, by omega, by omega⟩, HLt.out, fun v hv => by cases hv⟩
    · have := boxk_new (w2.alloc (.cells #[.string kd, .slice ap L.length cp, .bool false] 55)) #[.string kd, .slice none 0 0] 29
      rw [World.size_alloc] at this
      exact this
    · exact (B2.alloc B2.size _).alloc (B2.alloc B2.size _).size _
  obtain ⟨n, hN⟩ : ∃ n, n = L.length := ⟨_, rfl⟩
  rw [← hN] at hL D0 ⊢
  have HN := hide hN
  clear hN o2 c2 R1' R2' B2
  have d0 := boxk_cell (boxk_new w2 #[.string kd, .slice ap n cp, .bool false] 55) 0 _ rfl
  go_wp2
  generalize (w2.alloc (.cells #[.string kd, .slice ap n cp, .bool false] 55)).alloc (.cells #[.string kd, .slice none 0 0] 29) = w3 at D0
  obtain ⟨P, HP⟩ : ∃ P, Hid (w2.heap.size = P) := ⟨_, rfl⟩
  rw [HP.out] at D0 ⊢
  clear HP d0
  go_loopw [8] (fun i wr => ∃ (k : Nat) (fv : Value) (M : List V3), M.length = k ∧ k ≤ n ∧ i = .int .i64 k ∧ Fit w (w.heap.size + 1 + 1) w1.heap.size P (P + 1) kd (.slice ap n cp) fv L M wr) (fun i _ => n - (intOf i).toNat)
  case atStart => exact ⟨0, _, [], rfl, Nat.zero_le _, rfl, D0⟩
  case round =>
    clear D0
    obtain ⟨k, fv, M, rfl, hk, rfl, D⟩ := hrel
    obtain ⟨af, cf, hfv⟩ : ∃ a c, fv = .slice a M.length c := by
      rcases D.frow.2 with ⟨h, h0⟩ | ⟨g, cp, _, h, _⟩
      · exact ⟨_, 0, by rw [h0]; exact h⟩
      · exact ⟨_, _, h⟩
    subst hfv
    have p1 := boxk_cell D.pbox 1 _ rfl
    have o := D.ord
    by_cases hlt : M.length < n
    · have HD := hide D
      clear D
      go_wp2_with fail
      refine (l3Small_any w.heap.size (w.heap.size + 1 + 1) _ HD.out.cur).mono ?_
      rintro e w4 ⟨v, rfl, hv, c4, g4⟩
      have D4 := HD.out.draws c4 g4
      clear HD g4 c4 p1
      have D5 := D4.alloc (.cells #[.int .i64 v.K, .int .i64 v.N, .string v.S] 63)
      have p1 := boxk_cell D5.pbox 1 _ rfl
      obtain ⟨ax, cx, ex, hrx, -, -, -⟩ := rdK_owns A5.len (by decide) (by have := D5.prow; rw [HN.out] at this; exact this)
      simp only [Value.slice.injEq] at ex
      obtain ⟨rfl, -, rfl⟩ := ex
      obtain ⟨b', off', hab, hbw, hc⟩ := RdArg.cells hrx (by rw [← HN.out]; omega)
      obtain ⟨e0, e1, e2, e3, e4⟩ := hc M.length (by rw [← HN.out]; exact hlt)
      have hS : (eAt L M.length).small := by rw [eAt_in (by rw [← HN.out]; exact hlt)]; exact HSm.out _ (List.getElem_mem _)
      clear hc hrx D5
      generalize eAt L M.length = x at e0 e1 e2 e3 e4 hS
      obtain ⟨K, S, V⟩ := x
      simp only at e0 e1 e2 e3 e4
      have hVS : V.S.size ≤ 1048576 := hS.2
      subst hab
      by_cases hK : K = 2
      · subst hK
        have D6 := (D4.alloc (.cells #[.int .i64 V.K, .int .i64 V.N, .string V.S] 63)).alloc (.cells #[.int .i64 V.K, .int .i64 V.N, .string V.S] 63)
        have HO6 := hide D6.frow
        have HSrc := hide (news_src (w4.alloc (.cells #[.int .i64 V.K, .int .i64 V.N, .string V.S] 63)) V)
        have hz6 := D6.lt
        have f1 := boxk_cell (D4.alloc (.cells #[.int .i64 V.K, .int .i64 V.N, .string V.S] 63)).fbox 1 _ rfl
        have HD6 := hide D6
        clear D6 D4
        go_wp2_with (at_builtin; refine wpList_append_lies _ rfl (.tmp 40) (.tmp 42) 27 rfl (P + 1 + 1) 63 i0 (.agg #[.int .i64 0, .int .i64 0, .string ⟨#[]⟩]) 3 32 Try.underlying27 hi hz0 hz1 hz2 rfl (by omega) (.slice af M.length cf) M.length (cells3 M) rfl HO6.out ⟨(w4.alloc (.cells #[.int .i64 V.K, .int .i64 V.N, .string V.S] 63)).heap.size, 0, none⟩ 1 1 [.int .i64 V.K, .int .i64 V.N, .string V.S] ?hx rfl HSrc.out (news_one V) (by omega) (by unfold maxLen; omega) (by omega) (by omega) _ rfl ?_)
        case hx => simp [Act.eval]
        intro g5 c5 w5 ho5 hg5 hat5 hlt5
        obtain ⟨x1, y1, D7⟩ := HD6.out.grew hVS ho5 hg5
        have HD7 := hide D7
        clear D7 ho5 hg5 hat5 hlt5 HO6 HSrc HD6 f1 hz6
        go_wp2
        go_roundw
        case rel => exact ⟨M.length + 1, _, M ++ [V], by simp, by omega, by go_num, HD7.out⟩
        case measure => simp [intOf]; omega
      · have kK : (K == 2) = false := by simpa using hK
        clear hK
        have D6 := (D4.alloc (.cells #[.int .i64 v.K, .int .i64 v.N, .string v.S] 63)).alloc (.cells #[.int .i64 v.K, .int .i64 v.N, .string v.S] 63)
        have HO6 := hide D6.frow
        have HSrc := hide (news_src (w4.alloc (.cells #[.int .i64 v.K, .int .i64 v.N, .string v.S] 63)) v)
        have hz6 := D6.lt
        have f1 := boxk_cell (D4.alloc (.cells #[.int .i64 v.K, .int .i64 v.N, .string v.S] 63)).fbox 1 _ rfl
        have HD6 := hide D6
        clear D6 D4
        go_wp2_with (at_builtin; refine wpList_append_lies _ rfl (.tmp 40) (.tmp 42) 27 rfl (P + 1 + 1) 63 i0 (.agg #[.int .i64 0, .int .i64 0, .string ⟨#[]⟩]) 3 32 Try.underlying27 hi hz0 hz1 hz2 rfl (by omega) (.slice af M.length cf) M.length (cells3 M) rfl HO6.out ⟨(w4.alloc (.cells #[.int .i64 v.K, .int .i64 v.N, .string v.S] 63)).heap.size, 0, none⟩ 1 1 [.int .i64 v.K, .int .i64 v.N, .string v.S] ?hx rfl HSrc.out (news_one v) (by omega) (by unfold maxLen; omega) (by omega) (by omega) _ rfl ?_)
        case hx => simp [Act.eval]
        intro g5 c5 w5 ho5 hg5 hat5 hlt5
        obtain ⟨x1, y1, D7⟩ := HD6.out.grew (by omega) ho5 hg5
        have HD7 := hide D7
        clear D7 ho5 hg5 hat5 hlt5 HO6 HSrc HD6 f1 hz6
        go_wp2
        go_roundw
        case rel => exact ⟨M.length + 1, _, M ++ [v], by simp, by omega, by go_num, HD7.out⟩
        case measure => simp [intOf]; omega
    · have HD := hide D
      have f0 := boxk_cell D.fbox 0 _ rfl
      have f1 := boxk_cell D.fbox 1 _ rfl
      have p0 := boxk_cell D.pbox 0 _ rfl
      have p2 := boxk_cell D.pbox 2 _ rfl
      clear D
      go_wp2
      go_region_with (go_at_call 64; refine (l6Binds_any w.heap.size (w.heap.size + 1 + 1) _ HD.out.drew.cur).mono ?_; rintro e w6 ⟨g6, c6, R, rfl, hR3, hRs, hRo, cu6, gr6⟩; have D6 := HD.out.drew.draws cu6 gr6; have pp0 := boxk_cell D6.pbox 0 _ rfl; have pp1 := boxk_cell D6.pbox 1 _ rfl; have pp2 := boxk_cell D6.pbox 2 _ rfl; have ff0 := boxk_cell D6.fbox 0 _ rfl; have ff1 := boxk_cell D6.fbox 1 _ rfl; obtain ⟨x0, x1, x2, y0, y1, y2⟩ := box_cell D6.res1; obtain ⟨x3, x4, y3, y4⟩ := box2_cell D6.res2)
      all_goals
        have hlw : w.heap.size < wr.heap.size := by have := HD.out.lt; omega
        have hRs' := hide hRs
        have hRo' := hide hRo
        have D6' := hide D6
        clear hRs hRo D6 gr6 cu6
        go_wp2
        have H1 := hide (box_set3 D6'.out.res1 (.string kd) (.slice ap n cp) (.bool false))
        have H2 := hide (box2_set (box_grown D6'.out.res2 H1.out.2 (by omega)) (.string kd) (.slice af M.length cf))
        have F1 := hide (box_grown H1.out.1 H2.out.2 (by omega))
        have F2 := hide H2.out.1
        have Q1 := hide (row_keep (row_keep D6'.out.prow H1.out.2 (by omega)) H2.out.2 (by omega))
        have Q2 := hide (row_keep (row_keep D6'.out.frow H1.out.2 (by omega)) H2.out.2 (by omega))
        have Q3 := hide (row_keep (row_keep hRo'.out H1.out.2 (by show w.heap.size < wr.heap.size; omega)) H2.out.2 (by show w.heap.size + 1 < wr.heap.size; have := HD.out.lt; omega))
        have BB := hide ((D6'.out.bel.grown H1.out.2 D6'.out.bel.size (fun k hk => by cases hk; exact Nat.le_refl _)).grown H2.out.2 (by have := H1.out.2.size; have := D6'.out.bel.size; omega) (fun k hk => by cases hk; omega))
        have hMn := hide (show M.length ≤ n from by omega)
        have HMs := hide D6'.out.small
        generalize ((((w6.setCell ⟨w.heap.size, 0, none⟩ (.string kd)).setCell ⟨w.heap.size, 1, none⟩ (.slice ap n cp)).setCell ⟨w.heap.size, 2, none⟩ (.bool false)).setCell ⟨w.heap.size + 1, 0, none⟩ (.string kd)).setCell ⟨w.heap.size + 1, 1, none⟩ (.slice af M.length cf) = w7 at F1 F2 Q1 Q2 Q3 BB ⊢
        clear x0 x1 x2 y0 y1 y2 x3 x4 y3 y4 H1 H2 D6' hRo' pp0 pp1 pp2 ff0 ff1 p0 p1 p2 f0 f1
        obtain ⟨x0, x1, x2, -, -, -⟩ := box_cell F1.out
        obtain ⟨x3, x4, -, -⟩ := box2_cell F2.out
        refine bodyPost_ret (v := .tuple #[.agg #[.string kd, .slice ap n cp, .bool false], .agg #[.string kd, .slice af M.length cf], .slice (some ⟨g6, 0, none⟩) R.length c6]) (by simp [results, Try.results26, go_sem, x0, x1, x2, x3, x4]) rfl ?_
        have q1 := Q1.out
        have q2 := Q2.out
        have q3 := OwnK.of B4.len (by decide) Q3.out
        rw [HN.out] at q1 hMn ⊢
        obtain ⟨ax, cx, ex, hrx, -, -, -⟩ := rdK_owns A5.len (by decide) q1
        obtain ⟨ay, cy, ey, hry, -, -, -⟩ := rdV_owns q2
        simp only [Value.slice.injEq] at ex ey
        obtain ⟨rfl, -, rfl⟩ := ex
        obtain ⟨rfl, -, rfl⟩ := ey
        exact ⟨kd, _, _, L, _, _, M, g6, c6, R, rfl, by rw [← HN.out]; omega, by have := hMn.out; rw [← HN.out] at this; omega, hR3, HSm.out, HMs.out, hRs'.out, hrx, hry, rdOwnBind q3, q3.cap, BB.out⟩
end Go.Proofs.Ytaflokfgbmlmaab
