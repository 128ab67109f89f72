/-
  Texts of this claim joined into one: BlockedI, MatchS, BlockedS, MarkF, StrRow, VarsP, VarsOf, PosP, StoreArg, ToFact, LawStore, ToStore, CopyF, KeepF.
-/
import Derived.Test.YtfgigcdfmkfkjaaJoined2
import Derived.Deep.Upon
import Derived.Deep.RegionLaw
import Derived.Deep.CutRange
import Derived.Test.YtfgigcdfmkfkjaaJoined1
import Derived.Laws.IdiomStrings
import Derived.Deep.RegionHeld3
import Derived.Deep.QuietTactic
import Derived.BigQuiet
import Derived.Handy
import Derived.Deep.AppendLies
import Derived.OwnWalk
import Derived.Deep.RegionWith
/-
  The tested program's Blocked.
-/
namespace Go.Proofs.Ytfgigcdfmkfkjaa
open Go.RowKit Go.Shelf Go
set_option linter.unusedVariables false
attribute [local go_sem] Oper.semAt_some

theorem Ab.old {B k : Nat} {o : Obj} (hk : k < B) : Ab B (fun W => W.heap[k]? = some o) := fun s W W' row hs hg hr => by
  replace hs : W.heap[k]? = some o := hs
  show W'.heap[k]? = some o
  rw [hg.block k (Array.getElem?_eq_some_iff.1 hs).1 (fun e => by have := (hr _ e.symm).1; omega)]; exact hs
/-- the marks of loops that have run -/
abbrev mkD (D : Nat) : Deferred := { target := .collected D, args := #[] }
/-- all marks are taken: a result in a cell -/
theorem leaves_marks {P : Program} {fn : Func} {tmps : Array Value} {R : Ending → World → Prop} {X : Nat} {cs : Array Value} {T : TypeId} {B : Nat} {w0 : World} (hfin : ∀ W', W'.heap[X]? = some (.cells cs T (0, 0)) → Below B w0 W' → ∃ v, (results fn tmps).run P W' = .ok v W' ∧ R (.returned v) W') :
    ∀ (ds : List Nat) (W : World), ds.Nodup → (∀ D ∈ ds, B ≤ D ∧ W.heap[D]? = some (.deferred (some []))) → W.heap[X]? = some (.cells cs T (0, 0)) → Below B w0 W → LeavesInM Fence.wide 5 P fn tmps R (ds.map mkD) .returning W
  | [], W, _, _, hX, hB => hfin W hX hB
  | D :: ds, W, hn, hd, hX, hB => by
    have h1 := (hd D (by simp)).2
    have h2 := (hd D (by simp)).1
    have hlt := (Array.getElem?_eq_some_iff.1 h1).1
    have hne : X ≠ D := fun e => by rw [e, h1] at hX; cases hX
    refine ⟨by simp, .inl ⟨D, _, rfl, run_takeDeferred h1, ?_⟩⟩
    refine leaves_marks hfin ds _ (List.nodup_cons.1 hn).2 (fun E hE => ⟨(hd E (by simp [hE])).1, ?_⟩) ?_ ?_
    · exact (World.putObj_heap_other (fun e => (List.nodup_cons.1 hn).1 (by rw [← e]; exact hE))).trans (hd E (by simp [hE])).2
    · exact (World.putObj_heap_other hne).trans hX
    · exact hB.trans ((Below.refl _ W).grown (grownBy_putObj' W D _) (by have := hB.size; omega) (fun k hk => by cases hk; exact h2))

/-- the law where nothing is done with what comes -/
theorem wpFirstSkip {P : Program} {g : Operand} {ps : Array Tmp} {body : Code} {Q : Exit → Act → World → Prop} {a : Act} {w : World}
    {gf : Nat} {lb : Array Value} (hg : a.eval g = .func (.func gf) #[] lb) (eg : ∀ args w, (callFunc gf args).run P w = .ok (.enter gf args) w)
    {Z : Prop} (hseq : Seq1 P gf lb Z w) (hps : ps.size = 1)
    (I Ix : World → Prop) (hI : Ab w.heap.size I) (hIx : Ab w.heap.size Ix) (h0 : I w)
    (hbody : ∀ (l m : Nat) (x : Tri) (W : World), w.heap.size ≤ l → I W → body.wpIn (Fence.wide.inRound l) m P (fun e _ W' => e = .ret ∧ KeepsFrom w.heap.size W W' ∧ Ix W') { tmps := (ps.zip #[x.val]).foldl (fun t (p, v) => t.setIfInBounds p v) a.tmps, defers := [] } W)
    (hdone : ∀ (D : Nat) (W : World), w.heap.size ≤ D → ¬ Z → I W → W.heap[D]? = some (.deferred (some [])) → Q .normal { a with defers := { target := .collected D, args := #[] } :: a.defers } W)
    (hstop : ∀ (D : Nat) (W : World), w.heap.size ≤ D → Z → Ix W → W.heap[D]? = some (.deferred (some [])) → Code.ret.wp P Q { a with defers := { target := .collected D, args := #[] } :: a.defers } W) :
    (Code.rangeFunc g ps .skip body).wp P Q a w :=
  wpFirst hg eg hseq hps I Ix hI hIx h0 (fun x a' _ => a' = { tmps := (ps.zip #[x.val]).foldl (fun t (p, v) => t.setIfInBounds p v) a.tmps, defers := [] })
    (fun x a' _ _ _ _ h _ _ => h)
    (fun l m x W K hi hK => wpIn_skip (hK _ _ (KeepsFrom.refl _ _) hi rfl))
    (fun l m x a' W hl hi hx => by subst hx; exact hbody l m x W hl hi) hdone hstop
theorem Ab.all {B : Nat} {ds : List Nat} {o : Obj} (h : ∀ D ∈ ds, D < B) : Ab B (fun W => ∀ D ∈ ds, W.heap[D]? = some o) := fun s W W' row hs hg hr D hD => Ab.old (h D hD) s W W' row (hs D hD) hg hr

set_option maxRecDepth 100000 in
set_option maxHeartbeats 6400000 in
theorem implBlocked_any (x : RE) (a : Option Addr) (n cap : Nat) (nx : Int) (J : List It) (a3 : Option Addr) (c3 : Nat) (M0 : List B4) (w : World)
    (hr : RdRule w x) (hs : x.small) (hrI : RdI w a J) (hrB : RdBind w a3 M0) (hn : J.length = n) (hnJ : n ≤ 1048580) (hcap : M0.length ≤ c3) (hs2 : ∀ i, i < J.length → ∀ u ∈ (iAt J i).L, u.S.size ≤ 1048576) (hs3 : ∀ x ∈ M0, x.small) (hn1 : ∀ p ∈ x.P, p.L.length + M0.length ≤ 1048576) (hn2 : ∀ i, i < J.length → (iAt J i).L.length ≤ 1048576) :
    Calls Try.prog 35 #[.agg #[.string x.nm, .int .i64 x.sal, .slice x.aP x.nP x.cP, .slice x.aC x.nC x.cC, .slice x.aA x.nA x.cA], .agg #[.slice a n cap, .int .i64 nx], .slice a3 M0.length c3] w fun e w' =>
      (∃ b, e = .returned (.bool b) ∧ (b = true ↔ ∃ p ∈ x.P, p.nt = true ∧ TakesI p.kd p.L M0 J)) ∧ Below w.heap.size w w' := by
  obtain ⟨hX, hS, b2⟩ := boxes2 w #[.string x.nm, .int .i64 x.sal, .slice x.aP x.nP x.cP, .slice x.aC x.nC x.cC, .slice x.aA x.nA x.cA] #[.slice a n cap, .int .i64 nx] 49 53
  obtain ⟨V, HV⟩ : ∃ V, Hid ((((w.alloc (.cells #[.string x.nm, .int .i64 x.sal, .slice x.aP x.nP x.cP, .slice x.aC x.nC x.cC, .slice x.aA x.nA x.cA] 49)).alloc (.cells #[.slice a n cap, .int .i64 nx] 53)).alloc (.cells #[.bool false] 4)) = V) := ⟨_, rfl⟩
  have t2 := boxk_cell hX 2 _ rfl
  refine (callsIn_wide (n := 5)).1 ?_
  refine callsIn_of_wp_marks Try.func35 rfl trivial ?_ rfl
  simp only [Try.ntmps35, List.size_toArray, List.length_cons, List.length_nil, Nat.reduceAdd, Nat.reduceSub, Array.replicate_succ, Array.replicate_zero, List.push_toArray, List.append_toArray, List.nil_append, List.cons_append]
  refine wide_ret ?_
  go_wp2_with fail
  rw [HV.out]
  have hz0 : w.heap.size + 2 < V.heap.size := by rw [← HV.out]; simp
  have hXV : V.heap[w.heap.size]? = some (.cells #[.string x.nm, .int .i64 x.sal, .slice x.aP x.nP x.cP, .slice x.aC x.nC x.cC, .slice x.aA x.nA x.cA] 49 (0, 0)) := by rw [← HV.out]; exact (rows_boxes w _ _ _ _ _ _).2.1
  have hSV : V.heap[w.heap.size + 1]? = some (.cells #[.slice a n cap, .int .i64 nx] 53 (0, 0)) := by rw [← HV.out]; exact (rows_boxes w _ _ _ _ _ _).1
  have hRV : V.heap[w.heap.size + 1 + 1]? = some (.cells #[.bool false] 4 (0, 0)) := by rw [← HV.out]; exact (rows_boxes w _ _ _ _ _ _).2.2.1
  have bV : Below w.heap.size w V := by rw [← HV.out]; exact (rows_boxes w _ _ _ _ _ _).2.2.2
  have HRr := hide (hr.below bV)
  have HRI := hide (hrI.below bV)
  have HRB := hide (hrB.below bV)
  have HN := hide hn
  have HS := hide hs
  have HS2 := hide hs2
  have HS3 := hide hs3
  have HN1 := hide hn1
  have HN2 := hide hn2
  have HnP := hide hr.np
  clear hr hrI hrB hn hs hs2 hs3 hn1 hn2 hX hS b2 t2 HV
  refine wp_loop (fun act W => ∃ (i : Nat) (ds : List Nat) (u8 u13 u14 u15 u16 u17 u18 u19 u20 u21 u22 u23 u24 u25 u26 u27 : Value), i ≤ x.nP ∧ act = { tmps := #[.agg #[.string x.nm, .int .i64 x.sal, .slice x.aP x.nP x.cP, .slice x.aC x.nC x.cC, .slice x.aA x.nA x.cA], .agg #[.slice a n cap, .int .i64 nx], .slice a3 M0.length c3, .pointer (some ⟨w.heap.size, 0, none⟩), .pointer (some ⟨w.heap.size + 1, 0, none⟩), undef, .pointer (some ⟨w.heap.size + 1 + 1, 0, none⟩), undef, u8, .pointer (some ⟨w.heap.size, 2, none⟩), .slice x.aP x.nP x.cP, .int .i64 (x.nP : Int), .int .i64 (i : Int), u13, u14, u15, u16, u17, u18, u19, u20, u21, u22, u23, u24, u25, u26, u27], defers := ds.map mkD } ∧ Below V.heap.size V W ∧ (∀ D ∈ ds, (V.heap.size ≤ D ∧ W.heap[D]? = some (.deferred (some [])))) ∧ ds.Nodup ∧ ∀ j, j < i → (eAt x.P j).nt = true → ¬ TakesI (eAt x.P j).kd (eAt x.P j).L M0 J) (fun act _ => x.nP - (intOf (act.tmps.getD 12 undef)).toNat) ⟨0, [], _, _, _, _, _, _, _, _, _, _, _, _, _, _, _, _, Nat.zero_le _, rfl, Below.refl _ _, (fun D hD => by cases hD), List.nodup_nil, fun j hj => absurd hj (Nat.not_lt_zero _)⟩ ?_
  rintro _ W ⟨i, ds, u8, u13, u14, u15, u16, u17, u18, u19, u20, u21, u22, u23, u24, u25, u26, u27, hi, rfl, hbel, hds, hnd, hno⟩
  have HNo := hide hno
  have HDs := hide hds
  have HNd := hide hnd
  have HXb := hide (box_step hXV hbel)
  have HSb := hide (box_step hSV hbel)
  have HRb := hide (box_step hRV hbel)
  have hbw : Below w.heap.size w W := bV.trans (hbel.mono bV.size)
  clear hno hds hnd
  by_cases hlt : i < x.nP
  · have hip : i < x.P.length := by rw [HnP.out]; exact hlt
    have hlti : (i : Int) < (x.nP : Int) := by omega
    have hnPm : x.nP ≤ 1048576 := by rw [← HnP.out]; have := HS.out.1; unfold RE.sz at this; omega
    have hwr : wrap64 ((i : Int) + 1) = ((i + 1 : Nat) : Int) := by unfold wrap64; omega
    obtain ⟨bp, op, eP, hbp, hcP⟩ := (HRr.out.p.below hbel).cells (by omega)
    obtain ⟨p0, p1, p2, rA⟩ := hcP i hip
    have HSp := hide (HS.out.2.1 _ (eAt_mem hip))
    have HN1p := hide (HN1.out _ (eAt_mem hip))
    have HYes : Hid ((eAt x.P i).nt = true → TakesI (eAt x.P i).kd (eAt x.P i).L M0 J → ∃ p ∈ x.P, p.nt = true ∧ TakesI p.kd p.L M0 J) := fun h1 h2 => ⟨_, eAt_mem hip, h1, h2⟩
    have HNx : Hid (((eAt x.P i).nt = true → ¬ TakesI (eAt x.P i).kd (eAt x.P i).L M0 J) → ∀ j, j < i + 1 → (eAt x.P j).nt = true → ¬ TakesI (eAt x.P j).kd (eAt x.P j).L M0 J) := fun h j hj => by
      by_cases hji : j = i
      · rw [hji]; exact h
      · exact HNo.out j (by omega)
    generalize eAt x.P i = p at p0 p1 p2 rA HSp HN1p HYes HNx
    clear hcP
    have hpa : x.aP = some ⟨bp, op, none⟩ := eP
    rw [hpa]
    clear eP
    have bA := fun cs T => below_al W (.cells cs T)
    have hdsA : ∀ W', Below W.heap.size W W' → ∀ D ∈ ds, (V.heap.size ≤ D ∧ W'.heap[D]? = some (.deferred (some []))) := fun W' h D hD => ⟨(HDs.out D hD).1, (h.block D (Array.getElem?_eq_some_iff.1 (HDs.out D hD).2).1).trans (HDs.out D hD).2⟩
    have HdsA := hide hdsA
    clear hdsA
    cases hnt : p.nt
    · rw [hnt] at p2
      have HNn := hide (HNx.out (fun h => by rw [hnt] at h; cases h))
      have HB1 := hide (hbel.trans ((bA #[.string p.kd, .slice p.a p.L.length p.cap, .bool false] 79).mono hbel.size))
      have HD1 := hide (HdsA.out _ (bA #[.string p.kd, .slice p.a p.L.length p.cap, .bool false] 79))
      clear hnt bA
      go_wp2
      exact ⟨⟨i + 1, ds, _, _, _, _, _, _, _, _, _, _, _, _, _, _, _, _, by omega, rfl, HB1.out, HD1.out, HNd.out, HNn.out⟩, by simp [intOf]; omega⟩
    · rw [hnt] at p2
      have HYn := hide (HYes.out hnt)
      have HNn : Hid (¬ TakesI p.kd p.L M0 J → ∀ j, j < i + 1 → (eAt x.P j).nt = true → ¬ TakesI (eAt x.P j).kd (eAt x.P j).L M0 J) := fun h => HNx.out (fun _ => h)
      obtain ⟨e0, e1, b2⟩ := boxes2 W #[.string p.kd, .slice p.a p.L.length p.cap, .bool true] #[.string p.kd, .slice p.a p.L.length p.cap, .bool true] 79 79
      have s0 := boxk_cell (box_step HSb.out b2) 0 _ rfl
      have HE1 := hide e1
      have HB2 := hide b2
      clear hnt bA e0 e1 b2
      go_wp2_with fail
      generalize (W.alloc (.cells #[.string p.kd, .slice p.a p.L.length p.cap, .bool true] 79)).alloc (.cells #[.string p.kd, .slice p.a p.L.length p.cap, .bool true] 79) = W2 at s0 HE1 HB2 ⊢
      refine (rowsFrom_any 0 none 0 0 a3 M0.length c3 (some ⟨W.heap.size + 1, 0, none⟩) 1 1 a n cap W2).mono ?_
      rintro e W5 ⟨rfl, hW5⟩
      obtain ⟨h1, h2, h3, b5⟩ := rows_boxes W2 #[.int .i64 0, .slice none 0 0, .slice a3 M0.length c3] #[.slice (some ⟨W.heap.size + 1, 0, none⟩) 1 1] #[.slice a n cap] 30 45 51
      rw [← hW5] at h1 h2 h3 b5
      clear hW5
      have HB5 := hide (HB2.out.trans (b5.mono HB2.out.size))
      have hE5 := box_step HE1.out b5
      have hbV5 : Below V.heap.size V W5 := hbel.trans (HB5.out.mono hbel.size)
      have HRb5 := hide (box_step HRb.out HB5.out)
      have hz5 := HB5.out.size
      have HD5 := hide (HdsA.out _ HB5.out)
      have HD5l : Hid (∀ D ∈ ds, D < W5.heap.size) := fun D hD => (Array.getElem?_eq_some_iff.1 (HD5.out D hD).2).1
      have hzb := hbel.size
      clear s0 HE1 b5
      go_wp2_with fail
      refine wpFirstSkip (lb := #[.pointer (some ⟨W2.heap.size + 1, 0, none⟩), .pointer (some ⟨W2.heap.size, 0, none⟩), .pointer (some ⟨W2.heap.size + 1 + 1, 0, none⟩)]) (gf := 113) rfl (enters_of Try.func113 (by kernel_rfl) rfl)
        (rowsOne W5 (W2.heap.size + 1) W2.heap.size (W2.heap.size + 1 + 1) (W.heap.size + 1) 0 p.kd p.a p.cap p.L true a3 c3 M0 a n cap J h1 (boxk_cell hE5 0 _ rfl) (boxk_cell hE5 1 _ rfl) (boxk_cell hE5 2 _ rfl) h2 h3 (rA.below HB5.out) (HRI.out.below hbV5) (HRB.out.below hbV5) HN.out hnJ hcap HSp.out.2.2 HS2.out HS3.out HN1p.out HN2.out) rfl
        (fun Wx => (Below V.heap.size V Wx ∧ ∀ D ∈ ds, Wx.heap[D]? = some (.deferred (some []))) ∧ Wx.heap[w.heap.size + 1 + 1]? = some (.cells #[.bool false] 4 (0, 0)))
        (fun Wx => (Below w.heap.size w Wx ∧ ∀ D ∈ ds, Wx.heap[D]? = some (.deferred (some []))) ∧ Wx.heap[w.heap.size + 1 + 1]? = some (.cells #[.bool true] 4 (0, 0)))
        ?hI ?hIx ?h0 ?body ?done ?stop
      case hI => exact ((ownFrom_below (Nat.le_refl _) (by omega)).and (Ab.all HD5l.out)).and Ab.cells
      case hIx => exact ((ownFrom_below (Nat.le_refl _) (by have := bV.size; omega)).and (Ab.all HD5l.out)).and Ab.cells
      case h0 => exact ⟨⟨hbV5, fun D hD => (HD5.out D hD).2⟩, HRb5.out⟩
      case body =>
        intro l' m y Wx hl' hi
        have r0 := boxk_cell hi.2 0 _ rfl
        have rf0 := boxk_frozen hi.2 0
        have hst := boxk_set hi.2 0 (.bool true)
        gi_wp2
        refine ⟨(KeepsOthers.setCell _ _ _).from _, (bV.trans (hi.1.1.mono bV.size)).grown hst.2 (by have := bV.size; have := hi.1.1.size; omega) (fun k hk => by cases hk; omega), fun D hD => ?_⟩
        have h1 := hi.1.2 D hD
        rw [hst.2.block D (Array.getElem?_eq_some_iff.1 h1).1 (fun e => by cases e; rw [hi.2] at h1; cases h1)]; exact h1
      case done =>
        intro D Wx hD hz hi hK
        have HNz := hide (HNn.out hz)
        have HDx : Hid (∀ E ∈ D :: ds, V.heap.size ≤ E ∧ Wx.heap[E]? = some (.deferred (some []))) := fun E hE => by
          rcases List.mem_cons.1 hE with rfl | hE
          · exact ⟨by omega, hK⟩
          · exact ⟨(HDs.out E hE).1, hi.1.2 E hE⟩
        have HNdx : Hid ((D :: ds).Nodup) := List.nodup_cons.2 ⟨fun h => by have := HD5l.out D h; omega, HNd.out⟩
        have HBx := hide hi.1.1
        clear hz hK hi
        go_wp2
        exact ⟨⟨i + 1, D :: ds, _, _, _, _, _, _, _, _, _, _, _, _, _, _, _, _, by omega, rfl, HBx.out, HDx.out, HNdx.out, HNz.out⟩, by simp [intOf]; omega⟩
      case stop =>
        intro D Wx hD hz hi hK
        have HZt := hide (HYn.out hz)
        have HDx : Hid (∀ E ∈ D :: ds, w.heap.size ≤ E ∧ Wx.heap[E]? = some (.deferred (some []))) := fun E hE => by
          have := bV.size
          rcases List.mem_cons.1 hE with rfl | hE
          · exact ⟨by omega, hK⟩
          · exact ⟨by have := (HDs.out E hE).1; omega, hi.1.2 E hE⟩
        have HNdx : Hid ((D :: ds).Nodup) := List.nodup_cons.2 ⟨fun h => by have := HD5l.out D h; omega, HNd.out⟩
        have HBx := hide hi.1.1
        have HRx := hide hi.2
        clear hz hK hi
        go_wp2
        refine leaves_marks (X := w.heap.size + 1 + 1) (cs := #[.bool true]) (T := 4) (B := w.heap.size) (w0 := w) (fun W' hX hB => ?_) (D :: ds) _ HNdx.out HDx.out HRx.out HBx.out
        have c0 := boxk_cell hX 0 _ rfl
        exact ⟨.bool true, by simp [results, Try.results35, go_sem, c0], ⟨true, rfl, by simpa using HZt.out⟩, hB⟩
  · have HFin : Hid (¬ ∃ p ∈ x.P, p.nt = true ∧ TakesI p.kd p.L M0 J) := fun ⟨p, hp, h1, h2⟩ => by
      obtain ⟨j, hj, rfl⟩ := mem_eAt hp
      exact HNo.out j (by rw [HnP.out] at hj; omega) h1 h2
    have r0 := boxk_cell HRb.out 0 _ rfl
    have rf0 := boxk_frozen HRb.out 0
    have hst := boxk_set HRb.out 0 (.bool false)
    go_wp2
    refine leaves_marks (X := w.heap.size + 1 + 1) (cs := #[.bool false]) (T := 4) (B := w.heap.size) (w0 := w) (fun W' hX hB => ?_) ds _ HNd.out (fun D hD => ⟨by have := (HDs.out D hD).1; have := bV.size; omega, ?_⟩) hst.1 (hbw.grown hst.2 hbw.size (fun k hk => by cases hk; omega))
    · have c0 := boxk_cell hX 0 _ rfl
      exact ⟨.bool false, by simp [results, Try.results35, go_sem, c0], ⟨false, rfl, by simp [HFin.out]⟩, hB⟩
    · have h1 := (HDs.out D hD).2
      rw [hst.2.block D (Array.getElem?_eq_some_iff.1 h1).1 (fun e => by cases e; rw [HRb.out] at h1; cases h1)]; exact h1
end Go.Proofs.Ytfgigcdfmkfkjaa
/-
  What the model's MatchPat answers: matchR, in a row of the call's own.
-/
namespace Go.Proofs.Ytfgigcdfmkfkjaa
open Go.RowKit
set_option linter.unusedVariables false

theorem src_zeroB {P : Program} {w : World} {size : Nat} {t e : TypeId} (hk : P.underlying t = some (.slice e)) (ad : Option Addr) (c : Nat) : Src P size t (.slice ad 0 c) 0 [] w := by
  cases ad with
  | none => exact Src.ofNil w hk c
  | some a => exact Src.ofSlice w hk a 0 c [] (by simp) (fun j u h => by simp at h) (fun _ h => by cases h)
theorem wpList_append_zeroB {P : Program} {w : World} {ops : Array Oper} {rest : List Oper} {o : Oper} {a : Act} {Q : Exit → Act → World → Prop} (hgd : o.guard = none) (s x : Operand) (t : TypeId)
    (ho : o.op = .call { callee := .builtin .append, args := #[s, x], argTypes := #[t, t] }) (e : TypeId) (i : TypeInfo) (ht : P.underlying t = some (.slice e)) (hi : P.info? e = some i)
    (b : Option Addr) (n cap : Nat) (hs : a.eval s = .slice b n cap) (hle : n ≤ cap) (ad : Option Addr) (c : Nat) (hx : a.eval x = .slice ad 0 c)
    (h : wpList P ops Q rest (a.put o.dst (.slice b n cap)) w) : wpList P ops Q (o :: rest) a w := by
  refine wpList_plain hgd fun K hK => ?_
  have hrun := run_append_nothing w t t o.type e i ht hi b n cap hle (.slice ad 0 c) (src_zeroB ht ad c)
  unfold Oper.wp
  simp [execOp, ho, resolve, invoke, builtin, hs, hx, hrun, Result.andThen]
  exact hK _ _ h
/-- binds copied: append onto an empty row of the call's own -/
theorem wpList_copyB {w : World} {ops : Array Oper} {rest : List Oper} {o : Oper} {act : Act} {Q : Exit → Act → World → Prop} (hgd : o.guard = none) (s x : Operand)
    (ho : o.op = .call { callee := .builtin .append, args := #[s, x], argTypes := #[28, 28] })
    (base q : Nat) (hs : act.eval s = .slice (some ⟨q, 0, none⟩) 0 0) (hE : w.ownsRow base 107 4 (.slice (some ⟨q, 0, none⟩) 0 0) 0 []) (a3 : Option Addr) (c3 n : Nat) (M0 : List B4) (hn : M0.length = n) (hx : act.eval x = .slice a3 n c3) (hr : RdBind w a3 M0) (hm : n ≤ 1048576) (hbase : base ≤ w.heap.size)
    (h : ∀ g c w', w'.ownsRow base 107 4 (.slice (some ⟨g, 0, none⟩) n c) n (rowOf B4.cs M0) → w.grownBy w' (some q) → wpList Try.prog ops Q rest (act.put o.dst (.slice (some ⟨g, 0, none⟩) n c)) w') : wpList Try.prog ops Q (o :: rest) act w := by
  obtain ⟨i0, hi, hz0, hz1, hz2⟩ := info_parts Try.info107
  subst hn
  by_cases hL : M0 = []
  · subst hL
    refine wpList_append_zeroB hgd s x 28 ho 107 i0 Try.underlying28 hi (some ⟨q, 0, none⟩) 0 0 hs (Nat.le_refl _) a3 c3 hx ?_
    exact h q 0 w hE (World.grownBy.refl _ _)
  · obtain ⟨b, off, rfl, hbw, -⟩ := RdBind.cells hr (List.length_pos_iff.2 hL)
    have hpos : 0 < M0.length := List.length_pos_iff.2 hL
    refine wpList_append_lies _ hgd s x 28 ho base 107 i0 (.agg #[.string ⟨#[]⟩, .int .i64 0, .int .i64 0, .string ⟨#[]⟩]) 4 48 Try.underlying28 hi hz0 hz1 hz2 rfl (by omega) (.slice (some ⟨q, 0, none⟩) 0 0) 0 [] hs hE ⟨b, off, none⟩ M0.length c3 (rowOf B4.cs M0) hx (rowOf_length B4.len M0) (rdK_src B4.len (by decide) hr) ?one hpos (by unfold maxLen; omega) (by omega) hbase _ rfl ?_
    · intro u hu
      obtain ⟨y, hy, hu2⟩ := List.mem_flatMap.1 hu
      exact one4 y u hu2
    · intro g c w' h1 h2 h3 h4
      rw [Nat.zero_add, List.nil_append] at h1
      have := h g c w' h1 h2
      rw [Nat.zero_add]
      exact this

set_option maxRecDepth 100000 in
set_option maxHeartbeats 6400000 in
theorem specMatchPat_any (kd : ByteArray) (a1 : Option Addr) (c1 : Nat) (L : List A5) (nt : Bool) (kd' : ByteArray) (a2 : Option Addr) (c2 : Nat) (F : List V3) (a3 : Option Addr) (c3 : Nat) (M0 : List B4) (w : World)
    (hr1 : RdArg w a1 L) (hr2 : RdV w a2 F) (hr3 : RdBind w a3 M0) (hn1 : L.length + M0.length ≤ 1048576) (hn2 : F.length ≤ 1048576) :
    Calls Try.prog 54 #[.agg #[.string kd, .slice a1 L.length c1, .bool nt], .agg #[.string kd', .slice a2 F.length c2], .slice a3 M0.length c3] w fun e w' => GivesR e w' w (matchR kd kd' L F M0) := by
  obtain ⟨i0, hi, hz0, hz1, hz2'⟩ := info_parts Try.info107
  have b0 := below_al w (.cells #[.string kd, .slice a1 L.length c1, .bool nt] 79)
  have b1 := b0.alloc b0.size (.cells #[.string kd', .slice a2 F.length c2] 89)
  have hP := box_old (boxk_new w #[.string kd, .slice a1 L.length c1, .bool nt] 79) (by simp) (.cells #[.string kd', .slice a2 F.length c2] 89)
  have hQ := boxk_new (w.alloc (.cells #[.string kd, .slice a1 L.length c1, .bool nt] 79)) #[.string kd', .slice a2 F.length c2] 89
  simp only [World.size_alloc] at hQ
  have hz : ((w.alloc (.cells #[.string kd, .slice a1 L.length c1, .bool nt] 79)).alloc (.cells #[.string kd', .slice a2 F.length c2] 89)).heap.size = w.heap.size + 2 := by simp
  obtain ⟨nM, hNM⟩ : ∃ n, n = M0.length := ⟨_, rfl⟩
  obtain ⟨nF, hNF⟩ : ∃ n, n = F.length := ⟨_, rfl⟩
  obtain ⟨n, hN⟩ : ∃ n, n = L.length := ⟨_, rfl⟩
  have HLen := hide (fun k M (h : matchK L F M0 k = some M) => matchK_len h)
  have HNo := hide (fun k (hk : k ≤ L.length) (hkd : kd = kd') (hl : L.length = F.length) (h : matchK L F M0 k = none) => (show matchR kd kd' L F M0 = (M0, false) by subst hkd; exact matchR_fail hl hk h))
  have HYes := hide (fun M (hkd : kd = kd') (hl : L.length = F.length) (h : matchK L F M0 L.length = some M) => (show matchR kd kd' L F M0 = (M, true) by subst hkd; exact matchR_yes hl h))
  have HKd := hide (fun (h : kd ≠ kd') => matchR_kind (L := L) (F := F) (M0 := M0) h)
  have HLn := hide (fun (h : L.length ≠ F.length) => matchR_len (kd := kd) (kd' := kd') (M0 := M0) h)
  rw [← hN, ← hNM] at hn1
  rw [← hNF] at hn2
  rw [← hN, ← hNF] at b1 hP hQ hz
  rw [← hN] at b0
  rw [← hN, ← hNF, ← hNM]
  have HN := hide hN
  have HNF := hide hNF
  have HNM := hide hNM
  clear hN hNF hNM
  have b2 := b1.alloc b1.size (.cells #[] 107)
  have hE := World.ownsRow_lit (base := w.heap.size + 2) (e := 107) (size := 4) ((w.alloc (.cells #[.string kd, .slice a1 n c1, .bool nt] 79)).alloc (.cells #[.string kd', .slice a2 nF c2] 89)) #[] 0 (by omega) (Nat.zero_le _) rfl
  rw [hz] at hE
  have hP2 := box_old hP (by omega) (.cells #[] 107)
  have hQ2 := box_old hQ (by omega) (.cells #[] 107)
  have hz2 : w.heap.size + 3 ≤ (((w.alloc (.cells #[.string kd, .slice a1 n c1, .bool nt] 79)).alloc (.cells #[.string kd', .slice a2 nF c2] 89)).alloc (.cells #[] 107)).heap.size := by rw [World.size_alloc, hz]; omega
  clear b0 b1 hP hQ hz
  go_enter Try.func54, Try.ntmps54
  go_wp2_with (at_builtin; refine wpList_copyB rfl (.tmp 13) (.tmp 14) rfl (w.heap.size + 2) (w.heap.size + 2) ?hs hE a3 c3 nM M0 HNM.out.symm ?hx (hr3.below b2) (by omega) (by omega) ?_)
  generalize ((w.alloc (.cells #[.string kd, .slice a1 n c1, .bool nt] 79)).alloc (.cells #[.string kd', .slice a2 nF c2] 89)).alloc (.cells #[] 107) = w1 at b2 hE hP2 hQ2 hz2
  intro g2 k2 w2 ho2 gr2
  have hB2 : Below w.heap.size w w2 := b2.grown gr2 b2.size (fun k hk => by cases hk; omega)
  have HP := hide (box_gr hP2 gr2 (by omega))
  have HQ := hide (box_gr hQ2 gr2 (by omega))
  have hz3 : w.heap.size + 2 ≤ w2.heap.size := by have := gr2.size; omega
  have HO2 := hide ho2
  have p0 := boxk_cell HP.out 0 _ rfl
  have p1 := boxk_cell HP.out 1 _ rfl
  have q0 := boxk_cell HQ.out 0 _ rfl
  have q1 := boxk_cell HQ.out 1 _ rfl
  clear hE hP2 hQ2 hz2 b2 gr2 ho2
  have HRet : Hid (GivesR (.returned (.tuple #[.slice (some ⟨g2, 0, none⟩) nM k2, .bool false])) w2 w (M0, false)) :=
    ⟨g2, k2, by rw [HNM.out], Nat.le_trans (by omega) (HO2.out.lt g2 rfl).1, OwnK.of B4.len (by decide) HO2.out, hB2⟩
  by_cases hkd : kd = kd'
  · subst hkd
    have k1 : (kd.toList == kd.toList) = true := by simp
    by_cases hl : n = nF
    · subst hl
      have hnn : ((n : Int) != (n : Int)) = false := by simp
      have HNo2 := hide (fun k (hk : k ≤ L.length) (h : matchK L F M0 k = none) => HNo.out k hk rfl (by rw [← HN.out, ← HNF.out]) h)
      have HYes2 := hide (fun M (h : matchK L F M0 L.length = some M) => HYes.out M rfl (by rw [← HN.out, ← HNF.out]) h)
      clear HKd HLn HRet HNo HYes
      go_wp2
      go_loopw [8, 9] (fun v i wr => ∃ (k : Nat) (M : List B4) (g c : Nat), k ≤ n ∧ i = .int .i64 k ∧ v = .slice (some ⟨g, 0, none⟩) M.length c ∧ matchK L F M0 k = some M ∧ wr.ownsRow (w.heap.size + 2) 107 4 (.slice (some ⟨g, 0, none⟩) M.length c) M.length (rowOf B4.cs M) ∧ Below (w.heap.size + 2) w2 wr) (fun _ i _ => n - (intOf i).toNat)
      case atStart => exact ⟨0, M0, g2, k2, Nat.zero_le _, rfl, by rw [HNM.out], rfl, by rw [← HNM.out]; exact HO2.out, Below.refl _ _⟩
      case round =>
        clear p0 p1 q0 q1
        obtain ⟨k, M, g, c, hk, rfl, rfl, hM, hown, hbel⟩ := hrel
        have hB : Below w.heap.size w wr := hB2.trans (hbel.mono (by omega))
        have hzr : w.heap.size + 2 ≤ wr.heap.size := Nat.le_trans hz3 hbel.size
        have hMl := HLen.out k M hM
        rw [← HNM.out] at hMl
        have HM := hide hM
        clear hM
        have p1 := boxk_cell (box_below HP.out hbel (by omega)) 1 _ rfl
        by_cases hlt : k < n
        · obtain ⟨b, off, hab, hbw, hc⟩ := RdArg.cells (hr1.below hB) (by rw [← HN.out]; omega)
          obtain ⟨c0', c1', c2', c3', c4'⟩ := hc k (by rw [← HN.out]; exact hlt)
          clear hc
          obtain ⟨b', off', hab', hbw', hd⟩ := (hr2.below hB).open (by rw [← HNF.out]; omega)
          obtain ⟨d0, d1, d2⟩ := hd k (by rw [← HNF.out]; exact hlt)
          clear hd
          have HStep := hide (fun hb => matchK_step (L := L) (F := F) HM.out hb)
          have HFail := hide (fun hb => matchK_fail (L := L) (F := F) HM.out hb)
          generalize eAt L k = x at c0' c1' c2' c3' c4' HStep HFail
          generalize vAt F k = u at d0 d1 d2 HStep HFail
          obtain ⟨K, S, V⟩ := x
          simp only at c0' c1' c2' c3' c4'
          subst hab hab'
          have rd := (RdK.below (OwnK.rd B4.len (by decide) (OwnK.of B4.len (by decide) hown)) (below_al wr (.cells #[.int .i64 K, .string S, .int .i64 V.K, .int .i64 V.N, .string V.S] 157)))
          have hxb := boxk_new wr #[.int .i64 K, .string S, .int .i64 V.K, .int .i64 V.N, .string V.S] 157
          go_wp2_with fail
          refine (specBindOf_any _ _ M S _ rd (by omega)).mono ?_
          rintro e w3 ⟨rfl, hb3⟩
          have b3 := (below_al wr (.cells #[.int .i64 K, .string S, .int .i64 V.K, .int .i64 V.N, .string V.S] 157)).trans (hb3.mono (by simp))
          have HX := hide (box_step hxb hb3)
          have hzx : wr.heap.size < w3.heap.size := Nat.lt_of_lt_of_le (by simp) hb3.size
          have hB3 : Below (w.heap.size + 2) w2 w3 := hbel.trans (b3.mono hzr)
          have hz4 : w.heap.size + 2 ≤ w3.heap.size := Nat.le_trans hzr b3.size
          have HO3 := hide (ownsRow_below' hown b3)
          rw [← b3.cell (p := ⟨b', off' + k * 3, none⟩) hbw'] at d0
          rw [← b3.cell (p := ⟨b', off' + k * 3 + 1, none⟩) hbw'] at d1
          rw [← b3.cell (p := ⟨b', off' + k * 3 + 2, none⟩) hbw'] at d2
          have hbw3 : b' < w3.heap.size := World.block_lt_of_cell? w3 _ d0
          clear hb3 b3 c0' c1' c2' c3' c4' rd hxb hown hbel hB p1
          cases hb : bindO M S with
          | some v =>
            have hBv := hB3.alloc hz4 (.cells #[.int .i64 v.K, .int .i64 v.N, .string v.S] 105)
            have hy := boxk_new w3 #[.int .i64 v.K, .int .i64 v.N, .string v.S] 105
            have hx := box_old HX.out (by omega) (.cells #[.int .i64 v.K, .int .i64 v.N, .string v.S] 105)
            have hq := box_old (box_below HQ.out hB3 (by omega)) (by omega) (.cells #[.int .i64 v.K, .int .i64 v.N, .string v.S] 105)
            have ho := HO3.out.alloc (.cells #[.int .i64 v.K, .int .i64 v.N, .string v.S] 105)
            have e0 := keptB (below_al w3 (.cells #[.int .i64 v.K, .int .i64 v.N, .string v.S] 105)) d0
            have e1 := keptB (below_al w3 (.cells #[.int .i64 v.K, .int .i64 v.N, .string v.S] 105)) d1
            have e2 := keptB (below_al w3 (.cells #[.int .i64 v.K, .int .i64 v.N, .string v.S] 105)) d2
            have hzv : w.heap.size + 2 ≤ (w3.alloc (.cells #[.int .i64 v.K, .int .i64 v.N, .string v.S] 105)).heap.size := by simp; omega
            simp only [bindA]
            go_wp2_with fail
            generalize w3.alloc (.cells #[.int .i64 v.K, .int .i64 v.N, .string v.S] 105) = w4 at hBv hy hx hq ho e0 e1 e2 hzv
            have x0 := boxk_cell hx 0 _ rfl
            have x1 := boxk_cell hx 1 _ rfl
            have x2 := boxk_cell hx 2 _ rfl
            have x3 := boxk_cell hx 3 _ rfl
            have x4 := boxk_cell hx 4 _ rfl
            have q1 := boxk_cell hq 1 _ rfl
            obtain ⟨y0, y1, y2, -, -, -⟩ := box_cell hy
            have HO := hide ho
            clear hx hq hy ho d0 d1 d2
            have HSz := hide (fun d e => (show w.heap.size + 2 ≤ ((w4.drewN d).alloc e).heap.size from by rw [World.size_alloc]; exact Nat.le_succ_of_le hzv))
            have HOd := hide (fun d => (show (w4.drewN d).ownsRow (w.heap.size + 2) 107 4 (.slice (some ⟨g, 0, none⟩) M.length c) M.length (rowOf B4.cs M) from HO.out))
            have HBd := hide (fun d => (show Below (w.heap.size + 2) w2 (w4.drewN d) from hBv.trans ⟨rfl, rfl, rfl, Nat.le_refl _, fun _ _ => rfl⟩))
            by_cases h2 : K = 2
            · subst h2
              rw [show ∀ V, stepM M ⟨2, S, V⟩ u = (M, decide (V = u)) from fun V => stepM_K2] at HStep HFail
              rcases v3_cases V u with he | ⟨hne, hv⟩
              · subst he
                have HS2 := hide (HStep.out (by simp))
                have k1 : (V.K == V.K) = true := by simp
                have k2' : (V.N == V.N) = true := by simp
                have k3 : (V.S.toList == V.S.toList) = true := by simp
                clear HStep HFail
                go_quiet (fail)
                go_wp2
                go_roundw
                case rel => exact ⟨k + 1, M, g, c, by omega, by go_num, rfl, HS2.out, HOd.out _, HBd.out _⟩
                case measure => simp [intOf]; omega
              · have HF2 := hide (HFail.out (by simpa using hne))
                clear hne HStep HFail
                rcases hv with k1 | ⟨k1, k2'⟩ | ⟨k1, k2', k3⟩
                all_goals
                  have HEd := hide (fun d => (show ((w4.drewN d).alloc (.cells #[] 107)).ownsRow (w.heap.size + 2) 107 4 (.slice (some ⟨w4.heap.size, 0, none⟩) 0 0) 0 [] from World.ownsRow_lit (base := w.heap.size + 2) (w4.drewN d) #[] 0 hzv (Nat.zero_le _) rfl))
                  have HWd := hide (fun d => (show Below w.heap.size w ((w4.drewN d).alloc (.cells #[] 107)) from (hB2.trans ((HBd.out d).mono (by omega))).alloc (by show w.heap.size ≤ w4.heap.size; omega) _))
                  go_quiet (fail)
                  go_wp2_with (at_builtin; refine wpList_copyB rfl (.tmp 80) (.tmp 81) rfl (w.heap.size + 2) w4.heap.size (by simp [Act.eval]) (HEd.out _) a3 c3 nM M0 HNM.out.symm (by simp [Act.eval]) (hr3.below (HWd.out _)) (by omega) (HSz.out _ _) ?_)
                  intro g5 k5 w5 ho5 gr5
                  have HG : Hid (GivesR (.returned (.tuple #[.slice (some ⟨g5, 0, none⟩) nM k5, .bool false])) w5 w (matchR kd kd L F M0)) := by
                    unfold Hid
                    rw [HNo2.out (k + 1) (by rw [← HN.out]; omega) HF2.out]
                    exact ⟨g5, k5, by rw [HNM.out], Nat.le_trans (by omega) (ho5.lt g5 rfl).1, OwnK.of B4.len (by decide) ho5, (HWd.out _).grown gr5 (HWd.out _).size (fun k hk => by cases hk; omega)⟩
                  clear ho5 gr5
                  go_wp2
                  go_returns
                  exact HG.out
            · have kk2 : (K == 2) = false := by simpa using h2
              by_cases h1 : K = 1
              · subst h1
                rw [show ∀ V, stepM M ⟨1, S, V⟩ u = (M, decide (v = u)) from fun V => stepM_K1 hb] at HStep HFail
                clear hb
                rcases v3_cases v u with he | ⟨hne, hv⟩
                · subst he
                  have HS2 := hide (HStep.out (by simp))
                  have k1 : (v.K == v.K) = true := by simp
                  have k2' : (v.N == v.N) = true := by simp
                  have k3 : (v.S.toList == v.S.toList) = true := by simp
                  clear HStep HFail
                  go_quiet (fail)
                  go_wp2
                  go_roundw
                  case rel => exact ⟨k + 1, M, g, c, by omega, by go_num, rfl, HS2.out, HOd.out _, HBd.out _⟩
                  case measure => simp [intOf]; omega
                · have HF2 := hide (HFail.out (by simpa using hne))
                  clear hne HStep HFail
                  rcases hv with k1 | ⟨k1, k2'⟩ | ⟨k1, k2', k3⟩
                  all_goals
                    have HEd := hide (fun d => (show ((w4.drewN d).alloc (.cells #[] 107)).ownsRow (w.heap.size + 2) 107 4 (.slice (some ⟨w4.heap.size, 0, none⟩) 0 0) 0 [] from World.ownsRow_lit (base := w.heap.size + 2) (w4.drewN d) #[] 0 hzv (Nat.zero_le _) rfl))
                    have HWd := hide (fun d => (show Below w.heap.size w ((w4.drewN d).alloc (.cells #[] 107)) from (hB2.trans ((HBd.out d).mono (by omega))).alloc (by show w.heap.size ≤ w4.heap.size; omega) _))
                    go_quiet (fail)
                    go_wp2_with (at_builtin; refine wpList_copyB rfl (.tmp 80) (.tmp 81) rfl (w.heap.size + 2) w4.heap.size (by simp [Act.eval]) (HEd.out _) a3 c3 nM M0 HNM.out.symm (by simp [Act.eval]) (hr3.below (HWd.out _)) (by omega) (HSz.out _ _) ?_)
                    intro g5 k5 w5 ho5 gr5
                    have HG : Hid (GivesR (.returned (.tuple #[.slice (some ⟨g5, 0, none⟩) nM k5, .bool false])) w5 w (matchR kd kd L F M0)) := by
                      unfold Hid
                      rw [HNo2.out (k + 1) (by rw [← HN.out]; omega) HF2.out]
                      exact ⟨g5, k5, by rw [HNM.out], Nat.le_trans (by omega) (ho5.lt g5 rfl).1, OwnK.of B4.len (by decide) ho5, (HWd.out _).grown gr5 (HWd.out _).size (fun k hk => by cases hk; omega)⟩
                    clear ho5 gr5
                    go_wp2
                    go_returns
                    exact HG.out
              · rw [show ∀ V, stepM M ⟨K, S, V⟩ u = (M, true) from fun V => stepM_no h1 h2] at HStep HFail
                have HS2 := hide (HStep.out rfl)
                have kk1 : (K == 1) = false := by simpa using h1
                clear HStep HFail h1 h2
                go_quiet (fail)
                go_wp2
                go_roundw
                case rel => exact ⟨k + 1, M, g, c, by omega, by go_num, rfl, HS2.out, HOd.out _, HBd.out _⟩
                case measure => simp [intOf]; omega
          | none =>
            have hBv := hB3.alloc hz4 (.cells #[.int .i64 0, .int .i64 0, .string ⟨#[]⟩] 105)
            have hy := boxk_new w3 #[.int .i64 0, .int .i64 0, .string ⟨#[]⟩] 105
            have hx := box_old HX.out (by omega) (.cells #[.int .i64 0, .int .i64 0, .string ⟨#[]⟩] 105)
            have hq := box_old (box_below HQ.out hB3 (by omega)) (by omega) (.cells #[.int .i64 0, .int .i64 0, .string ⟨#[]⟩] 105)
            have ho := HO3.out.alloc (.cells #[.int .i64 0, .int .i64 0, .string ⟨#[]⟩] 105)
            have e0 := keptB (below_al w3 (.cells #[.int .i64 0, .int .i64 0, .string ⟨#[]⟩] 105)) d0
            have e1 := keptB (below_al w3 (.cells #[.int .i64 0, .int .i64 0, .string ⟨#[]⟩] 105)) d1
            have e2 := keptB (below_al w3 (.cells #[.int .i64 0, .int .i64 0, .string ⟨#[]⟩] 105)) d2
            have hzv : w.heap.size + 2 ≤ (w3.alloc (.cells #[.int .i64 0, .int .i64 0, .string ⟨#[]⟩] 105)).heap.size := by simp; omega
            simp only [bindA]
            go_wp2_with fail
            generalize w3.alloc (.cells #[.int .i64 0, .int .i64 0, .string ⟨#[]⟩] 105) = w4 at hBv hy hx hq ho e0 e1 e2 hzv
            have x0 := boxk_cell hx 0 _ rfl
            have x1 := boxk_cell hx 1 _ rfl
            have x2 := boxk_cell hx 2 _ rfl
            have x3 := boxk_cell hx 3 _ rfl
            have x4 := boxk_cell hx 4 _ rfl
            have q1 := boxk_cell hq 1 _ rfl
            obtain ⟨y0, y1, y2, -, -, -⟩ := box_cell hy
            have HO := hide ho
            clear hx hq hy ho d0 d1 d2
            have HSz := hide (fun d e => (show w.heap.size + 2 ≤ ((w4.drewN d).alloc e).heap.size from by rw [World.size_alloc]; exact Nat.le_succ_of_le hzv))
            have HOd := hide (fun d => (show (w4.drewN d).ownsRow (w.heap.size + 2) 107 4 (.slice (some ⟨g, 0, none⟩) M.length c) M.length (rowOf B4.cs M) from HO.out))
            have HBd := hide (fun d => (show Below (w.heap.size + 2) w2 (w4.drewN d) from hBv.trans ⟨rfl, rfl, rfl, Nat.le_refl _, fun _ _ => rfl⟩))
            by_cases h2 : K = 2
            · subst h2
              rw [show ∀ V, stepM M ⟨2, S, V⟩ u = (M, decide (V = u)) from fun V => stepM_K2] at HStep HFail
              rcases v3_cases V u with he | ⟨hne, hv⟩
              · subst he
                have HS2 := hide (HStep.out (by simp))
                have k1 : (V.K == V.K) = true := by simp
                have k2' : (V.N == V.N) = true := by simp
                have k3 : (V.S.toList == V.S.toList) = true := by simp
                clear HStep HFail
                go_quiet (fail)
                go_wp2
                go_roundw
                case rel => exact ⟨k + 1, M, g, c, by omega, by go_num, rfl, HS2.out, HOd.out _, HBd.out _⟩
                case measure => simp [intOf]; omega
              · have HF2 := hide (HFail.out (by simpa using hne))
                clear hne HStep HFail
                rcases hv with k1 | ⟨k1, k2'⟩ | ⟨k1, k2', k3⟩
                all_goals
                  have HEd := hide (fun d => (show ((w4.drewN d).alloc (.cells #[] 107)).ownsRow (w.heap.size + 2) 107 4 (.slice (some ⟨w4.heap.size, 0, none⟩) 0 0) 0 [] from World.ownsRow_lit (base := w.heap.size + 2) (w4.drewN d) #[] 0 hzv (Nat.zero_le _) rfl))
                  have HWd := hide (fun d => (show Below w.heap.size w ((w4.drewN d).alloc (.cells #[] 107)) from (hB2.trans ((HBd.out d).mono (by omega))).alloc (by show w.heap.size ≤ w4.heap.size; omega) _))
                  go_quiet (fail)
                  go_wp2_with (at_builtin; refine wpList_copyB rfl (.tmp 80) (.tmp 81) rfl (w.heap.size + 2) w4.heap.size (by simp [Act.eval]) (HEd.out _) a3 c3 nM M0 HNM.out.symm (by simp [Act.eval]) (hr3.below (HWd.out _)) (by omega) (HSz.out _ _) ?_)
                  intro g5 k5 w5 ho5 gr5
                  have HG : Hid (GivesR (.returned (.tuple #[.slice (some ⟨g5, 0, none⟩) nM k5, .bool false])) w5 w (matchR kd kd L F M0)) := by
                    unfold Hid
                    rw [HNo2.out (k + 1) (by rw [← HN.out]; omega) HF2.out]
                    exact ⟨g5, k5, by rw [HNM.out], Nat.le_trans (by omega) (ho5.lt g5 rfl).1, OwnK.of B4.len (by decide) ho5, (HWd.out _).grown gr5 (HWd.out _).size (fun k hk => by cases hk; omega)⟩
                  clear ho5 gr5
                  go_wp2
                  go_returns
                  exact HG.out
            · have kk2 : (K == 2) = false := by simpa using h2
              by_cases h1 : K = 1
              · subst h1
                rw [show ∀ V, stepM M ⟨1, S, V⟩ u = (M ++ [⟨S, u⟩], true) from fun V => stepM_K1n hb] at HStep HFail
                have HS2 := hide (HStep.out rfl)
                clear HStep HFail hb
                have HAd := hide (fun d e => (show ((w4.drewN d).alloc e).ownsRow (w.heap.size + 2) 107 4 (.slice (some ⟨g, 0, none⟩) M.length c) M.length (rowOf B4.cs M) from (HOd.out d).alloc e))
                have HBa := hide (fun d e => (show Below (w.heap.size + 2) w2 ((w4.drewN d).alloc e) from (HBd.out d).alloc hzv e))
                have HApp : Hid (rowOf B4.cs M ++ B4.cs ⟨S, u⟩ = rowOf B4.cs (M ++ [⟨S, u⟩])) := by unfold Hid; rw [rowOf_append]; simp [rowOf]
                go_quiet (fail)
                go_wp2_with fail
                go_region_law (refine step_append_lies _ rfl (.tmp 90) (.tmp 99) 28 rfl (w.heap.size + 2) 107 i0 (.agg #[.string ⟨#[]⟩, .int .i64 0, .int .i64 0, .string ⟨#[]⟩]) 4 48 Try.underlying28 hi hz0 hz1 hz2' rfl (by omega) (.slice (some ⟨g, 0, none⟩) M.length c) M.length (rowOf B4.cs M) (by simp [Act.eval]) (HAd.out _ _) ⟨w4.heap.size, 0, none⟩ 1 1 (B4.cs ⟨S, u⟩) (by simp [Act.eval]) rfl (src4 (w4.drewN _) ⟨S, u⟩) (one4 _) (by omega) (by unfold maxLen; omega) (by omega) (HSz.out _ _) _ rfl ?_; intro g5 c5 w5 ho5 hg5 hat5 hlt5)
                all_goals
                  rw [HApp.out] at ho5
                  have HO5 := hide ho5
                  have HB5 := hide ((HBa.out _ _).grown hg5 (HSz.out _ _) (fun k hk => ((HOd.out 0).lt k hk).1))
                  clear ho5 hg5 hat5 hlt5
                  go_wp2
                  go_roundw
                  case rel => exact ⟨k + 1, M ++ [⟨S, u⟩], g5, c5, by omega, by go_num, by simp, HS2.out, by rw [show (M ++ [(⟨S, u⟩ : B4)]).length = M.length + 1 by simp]; exact HO5.out, HB5.out⟩
                  case measure => simp [intOf]; omega
              · rw [show ∀ V, stepM M ⟨K, S, V⟩ u = (M, true) from fun V => stepM_no h1 h2] at HStep HFail
                have HS2 := hide (HStep.out rfl)
                have kk1 : (K == 1) = false := by simpa using h1
                clear HStep HFail h1 h2
                go_quiet (fail)
                go_wp2
                go_roundw
                case rel => exact ⟨k + 1, M, g, c, by omega, by go_num, rfl, HS2.out, HOd.out _, HBd.out _⟩
                case measure => simp [intOf]; omega
        · obtain rfl : k = n := by omega
          have HG : Hid (GivesR (.returned (.tuple #[.slice (some ⟨g, 0, none⟩) M.length c, .bool true])) wr w (matchR kd kd L F M0)) := by
            unfold Hid
            rw [HYes2.out M (by rw [← HN.out]; exact HM.out)]
            exact ⟨g, c, rfl, Nat.le_trans (by omega) (hown.lt g rfl).1, OwnK.of B4.len (by decide) hown, hB⟩
          clear hown
          go_wp2
          go_returns
          exact HG.out
    · have hnn : ((n : Int) != (nF : Int)) = true := by simp only [bne_iff_ne, ne_eq]; omega
      rw [← HLn.out (by rw [← HN.out, ← HNF.out]; exact hl)] at HRet
      clear hl
      go_wp2
      go_returns
      exact HRet.out
  · have k1 : (kd.toList == kd'.toList) = false := beq_ne hkd
    rw [← HKd.out hkd] at HRet
    clear hkd
    go_wp2
    go_returns
    exact HRet.out
end Go.Proofs.Ytfgigcdfmkfkjaa
/-
  The model's Blocked.
-/
namespace Go.Proofs.Ytfgigcdfmkfkjaa
open Go.RowKit
set_option linter.unusedVariables false

set_option maxRecDepth 100000 in
set_option maxHeartbeats 6400000 in
theorem specBlocked_any (x : RE) (a : Option Addr) (n cap : Nat) (nx : Int) (J : List It) (a3 : Option Addr) (c3 : Nat) (M0 : List B4) (w : World)
    (hr : RdRule w x) (hs : x.small) (hrI : RdI w a J) (hrB : RdBind w a3 M0) (hn : J.length = n) (hnJ : n ≤ 1048580) (hn1 : ∀ p ∈ x.P, p.L.length + M0.length ≤ 1048576) (hn2 : ∀ i, i < J.length → (iAt J i).L.length ≤ 1048576) :
    Calls Try.prog 33 #[.agg #[.string x.nm, .int .i64 x.sal, .slice x.aP x.nP x.cP, .slice x.aC x.nC x.cC, .slice x.aA x.nA x.cA], .agg #[.slice a n cap, .int .i64 nx], .slice a3 M0.length c3] w fun e w' =>
      (∃ b, e = .returned (.bool b) ∧ (b = true ↔ ∃ p ∈ x.P, p.nt = true ∧ TakesI p.kd p.L M0 J)) ∧ Below w.heap.size w w' := by
  obtain ⟨hX, hS, b2⟩ := boxes2 w #[.string x.nm, .int .i64 x.sal, .slice x.aP x.nP x.cP, .slice x.aC x.nC x.cC, .slice x.aA x.nA x.cA] #[.slice a n cap, .int .i64 nx] 49 53
  have HRr := hide (hr.below b2)
  have HRI := hide (hrI.below b2)
  have HRB := hide (hrB.below b2)
  have HN := hide hn
  have HS := hide hs
  have HN1 := hide hn1
  have HN2 := hide hn2
  have HnP := hide hr.np
  have hnPm : x.nP ≤ 1048576 := by rw [← hr.np]; have := hs.1; unfold RE.sz at this; omega
  clear hr hrI hrB hn hs hn1 hn2
  go_enter Try.func33, Try.ntmps33
  go_wp2_with fail
  generalize (w.alloc (.cells #[.string x.nm, .int .i64 x.sal, .slice x.aP x.nP x.cP, .slice x.aC x.nC x.cC, .slice x.aA x.nA x.cA] 49)).alloc (.cells #[.slice a n cap, .int .i64 nx] 53) = V at hX hS b2 HRr HRI HRB ⊢
  go_loopw [7] (fun ii wr => ∃ (i : Nat), i ≤ x.nP ∧ ii = .int .i64 i ∧ Below V.heap.size V wr ∧ ∀ j, j < i → (eAt x.P j).nt = true → ¬ TakesI (eAt x.P j).kd (eAt x.P j).L M0 J) (fun ii _ => x.nP - (intOf ii).toNat)
  case atStart => exact ⟨0, Nat.zero_le _, rfl, Below.refl _ _, fun j hj => absurd hj (Nat.not_lt_zero _)⟩
  case round =>
    obtain ⟨i, hi, rfl, hbel, hno⟩ := hrel
    have HNo := hide hno
    have hbw : Below w.heap.size w wr := b2.trans (hbel.mono b2.size)
    have t2 := boxk_cell (box_step hX hbel) 2 _ rfl
    clear hno
    by_cases hlt : i < x.nP
    · have hip : i < x.P.length := by rw [HnP.out]; exact hlt
      have hlti : (i : Int) < (x.nP : Int) := by omega
      obtain ⟨bp, op, eP, hbp, hcP⟩ := (HRr.out.p.below hbel).cells (by omega)
      obtain ⟨p0, p1, p2, rA⟩ := hcP i hip
      have HN1p := hide (HN1.out _ (eAt_mem hip))
      have HYes : Hid ((eAt x.P i).nt = true → TakesI (eAt x.P i).kd (eAt x.P i).L M0 J → ∃ p ∈ x.P, p.nt = true ∧ TakesI p.kd p.L M0 J) := fun h1 h2 => ⟨_, eAt_mem hip, h1, h2⟩
      have HNx : Hid (((eAt x.P i).nt = true → ¬ TakesI (eAt x.P i).kd (eAt x.P i).L M0 J) → ∀ j, j < i + 1 → (eAt x.P j).nt = true → ¬ TakesI (eAt x.P j).kd (eAt x.P j).L M0 J) := fun h j hj => by
        by_cases hji : j = i
        · rw [hji]; exact h
        · exact HNo.out j (by omega)
      generalize eAt x.P i = p at p0 p1 p2 rA HN1p HYes HNx
      rw [eP] at t2
      have HBel := hide hbel
      have HRA := hide rA
      have HXr := hide (box_step hX hbel)
      have HSr := hide (box_step hS hbel)
      clear hcP eP rA hbel
      go_wp2_with fail
      go_loopw [8] (fun kk wx => ∃ (k : Nat), k ≤ n ∧ kk = .int .i64 k ∧ Below wr.heap.size wr wx ∧ ∀ t, t < k → (matchR p.kd (iAt J t).kd p.L (iAt J t).L M0).2 = false) (fun kk _ => n - (intOf kk).toNat)
      case atStart => exact ⟨0, Nat.zero_le _, rfl, Below.refl _ _, fun j hj => absurd hj (Nat.not_lt_zero _)⟩
      case round =>
        obtain ⟨k, hk, rfl, hbk, hnk⟩ := hrel
        have hbV := HBel.out.trans (hbk.mono HBel.out.size)
        have hbW := hbw.trans (hbk.mono hbw.size)
        have t2' := (hbk.cell (World.block_lt_of_cell? _ _ t2)).trans t2
        have p0' := (hbk.cell (World.block_lt_of_cell? _ _ p0)).trans p0
        have p1' := (hbk.cell (World.block_lt_of_cell? _ _ p1)).trans p1
        have p2' := (hbk.cell (World.block_lt_of_cell? _ _ p2)).trans p2
        have s0' := boxk_cell (box_step HSr.out hbk) 0 _ rfl
        have HNk := hide hnk
        clear hnk t2 p0 p1 p2
        by_cases hkn : k < n
        · have hkni : (k : Int) < (n : Int) := by omega
          cases hnt : p.nt
          · rw [hnt] at p2'
            have HG := hide (HNx.out (fun h => by rw [hnt] at h; cases h))
            clear hnt
            go_wp2
            go_roundw
            case rel => exact ⟨i + 1, by omega, by go_num, hbV, HG.out⟩
            case measure => simp [intOf]; omega
          · rw [hnt] at p2'
            have HY := hide (HYes.out hnt)
            clear hnt
            have hkj : k < J.length := by rw [HN.out]; exact hkn
            obtain ⟨b2', o2, e2, y0, y1, y2, rV⟩ := (HRI.out.below hbV) k hkj
            have HnV := hide (HN2.out k hkj)
            have HZ : Hid ((matchR p.kd (iAt J k).kd p.L (iAt J k).L M0).2 = true → TakesI p.kd p.L M0 J) := fun h => ⟨k, hkj, h⟩
            have HZn : Hid ((matchR p.kd (iAt J k).kd p.L (iAt J k).L M0).2 = false → ∀ j, j < k + 1 → (matchR p.kd (iAt J j).kd p.L (iAt J j).L M0).2 = false) := fun h j hj => by
              by_cases hjk : j = k
              · rw [hjk]; exact h
              · exact HNk.out j (by omega)
            generalize iAt J k = y at y0 y1 y2 rV HnV HZ HZn
            subst e2
            have HC : Hid (∀ W, Below wr.heap.size wr W → Calls Try.prog 54 #[.agg #[.string p.kd, .slice p.a p.L.length p.cap, .bool true], .agg #[.string y.kd, .slice y.a y.L.length y.cap], .slice a3 M0.length c3] W fun e w' => GivesR e w' W (matchR p.kd y.kd p.L y.L M0)) := fun W h =>
              specMatchPat_any p.kd p.a p.cap p.L true y.kd y.a y.cap y.L a3 c3 M0 W ((HRA.out.below hbk).below h) (rV.below h) ((HRB.out.below hbV).below h) HN1p.out HnV.out
            have HCd := hide (HC.out _ ((Below.refl wr.heap.size wr).drew))
            generalize matchR p.kd y.kd p.L y.L M0 = r at HC HCd HZ HZn
            go_wp2_with fail
            go_cut [9, 10] from 33 to 48 (fun i9 i10 wx => ∃ (g c : Nat), i9 = .slice (some ⟨g, 0, none⟩) r.1.length c ∧ i10 = .bool r.2 ∧ Below wr.heap.size wr wx)
            case first =>
              go_region_law (first
                | (rw [if_pos (by simp [Region.wanted])]; go_simp; go_at_call 54; refine HCd.out.mono ?_; rintro e w4 ⟨g, c, rfl, hg, ho, hb5⟩))
              all_goals
                have HB5 := hide (below_dr hb5)
                clear hb5 hg ho
                go_wp2
                go_meet
                exact ⟨g, c, rfl, rfl, HB5.out⟩
            case rest =>
              obtain ⟨g, c, rfl, rfl, hbc⟩ := hcut
              have hbWc := hbW.trans (hbc.mono hbW.size)
              have hbkc := hbk.trans (hbc.mono hbk.size)
              obtain ⟨R, bb⟩ := r
              simp only at HZ HZn ⊢
              cases bb
              · have HG := hide (HZn.out rfl)
                clear HZ HZn HC HCd
                go_wp2
                go_roundw
                case rel => exact ⟨k + 1, by omega, by go_num, hbkc, HG.out⟩
                case measure => simp [intOf]; omega
              · have HG := hide (HY.out (HZ.out rfl))
                clear HZ HZn HC HCd
                go_wp2
                go_returns
                exact ⟨⟨true, rfl, by simpa using HG.out⟩, hbWc⟩
        · have HG := hide (HNx.out (fun _ => fun ⟨t, ht, h⟩ => by
            have := HNk.out t (by rw [HN.out] at ht; omega)
            rw [this] at h; cases h))
          go_wp2
          go_roundw
          case rel => exact ⟨i + 1, by omega, by go_num, hbV, HG.out⟩
          case measure => simp [intOf]; omega
    · have HFin : Hid (¬ ∃ p ∈ x.P, p.nt = true ∧ TakesI p.kd p.L M0 J) := fun ⟨p, hp, h1, h2⟩ => by
        obtain ⟨j, hj, rfl⟩ := mem_eAt hp
        exact HNo.out j (by rw [HnP.out] at hj; omega) h1 h2
      go_wp2
      go_ret
      exact ⟨⟨false, rfl, by simp [HFin.out]⟩, hbw⟩
end Go.Proofs.Ytfgigcdfmkfkjaa
/-
  The contracts of the laws' own markers on facts: markFact writes numbers and texts into a row of values of the calls' own and touches no other block that was there.
-/
namespace Go.Proofs.Ytfgigcdfmkfkjaa
open Go.RowKit
set_option linter.unusedVariables false

/-- the bytes of a mark's digits -/
def markL (fuel n : Nat) (r : List UInt8) : List UInt8 := match fuel with
  | 0 => r
  | f + 1 => if n = 0 then r else markL f (n / 10) (UInt8.ofNat (48 + n % 10) :: r)
def markT (k : Nat) : ByteArray := if k = 0 then ⟨#[109, 48]⟩ else ⟨#[109]⟩ ++ ⟨(markL 20 k []).toArray⟩
theorem markL_stop (n : Nat) (r : List UInt8) : ∀ f, n = 0 → markL f n r = r
  | 0, _ => rfl
  | f + 1, h => by unfold markL; rw [if_pos h]
theorem markL_step {f n : Nat} {r : List UInt8} (h : n ≠ 0) : markL (f + 1) n r = markL f (n / 10) (UInt8.ofNat (48 + n % 10) :: r) := by
  show (if n = 0 then _ else _) = _; rw [if_neg h]

theorem conv_1 (q : Nat) (c : UInt8) (d : Int) (hd : d = (c.toNat : Int)) (W : World) (h : W.cell? ⟨q, 0, none⟩ = some (.int .u8 d)) :
    (convert 69 9 (.slice (some ⟨q, 0, none⟩) 1 1)).run Try.prog W = .ok (.string ⟨#[c]⟩) W := by
  subst hd
  have := run_convert_bytes_back (P := Try.prog) W 69 9 5 ⟨q, 0, none⟩ 1 [c] Try.underlying69 Try.underlying5 Try.underlying9 (fun j hj => by
    obtain rfl : j = 0 := by simpa using hj
    rw [Addr.add_lit, Nat.add_zero, h]
    simp)
  simpa using this
theorem cell_1 (w : World) (c : Value) (T : TypeId) : (w.alloc (.cells #[c] T)).cell? ⟨w.heap.size, 0, none⟩ = some c := by
  rw [cell_of_row _ w.heap.size 0 _ T (0, 0) (heap_alloc_new w _)]; rfl
theorem app_1 (c : UInt8) (s : ByteArray) : ((⟨#[c]⟩ : ByteArray) ++ s).data.toList = c :: s.data.toList ∧ ((⟨#[c]⟩ : ByteArray) ++ s).size = s.size + 1 := by
  constructor
  · simp
  · rw [ByteArray.size_append]; show 1 + s.size = _; omega

set_option maxRecDepth 100000 in
set_option maxHeartbeats 1600000 in
theorem markText_any (k : Nat) (w : World) (hk : k ≤ 1000000000) :
    Calls Try.prog 73 #[.int .i64 (k : Int)] w fun e w' => e = .returned (.string (markT k)) ∧ Below w.heap.size w w' := by
  by_cases h0 : k = 0
  · subst h0
    go_enter Try.func73, Try.ntmps73
    go_wp2
    go_ret
    exact ⟨rfl, Below.refl _ _⟩
  · have h1 : ¬ ((k : Int) ≤ 0) := by omega
    have HT : Hid (markT k = ⟨#[109]⟩ ++ ⟨(markL 20 k []).toArray⟩) := by unfold Hid markT; rw [if_neg h0]
    go_enter Try.func73, Try.ntmps73
    go_wp2
    go_loopw [0, 3] (fun i s wr => ∃ (m f : Nat) (t : ByteArray), i = .int .i64 (m : Int) ∧ s = .string t ∧ m ≤ 1000000000 ∧ m < 10 ^ f ∧ f ≤ 20 ∧ t.size ≤ 40 - f ∧ markL f m t.data.toList = markL 20 k [] ∧ Below w.heap.size w wr) (fun i _ _ => (intOf i).toNat)
    case atStart => exact ⟨k, 20, ⟨#[]⟩, rfl, rfl, hk, by omega, Nat.le_refl _, by show (0 : Nat) ≤ 20; omega, rfl, Below.refl _ _⟩
    case round =>
      obtain ⟨m, f, t, rfl, rfl, hm, hf, hf2, hr, hl, hbel⟩ := hrel
      by_cases hlt : m = 0
      · have HL : Hid (t = ⟨(markL 20 k []).toArray⟩) := by
          have := (markL_stop m t.data.toList f hlt).symm.trans hl
          apply ByteArray.ext
          rw [← this]
        have h2 : ¬ ((0 : Int) < (m : Int)) := by omega
        clear hl
        go_wp2
        go_ret
        exact ⟨by rw [HT.out, ← HL.out]; rfl, hbel⟩
      · obtain ⟨f', rfl⟩ : ∃ f', f = f' + 1 := ⟨f - 1, by cases f with | zero => simp at hf; omega | succ f => rfl⟩
        have HL := hide ((markL_step hlt).symm.trans hl)
        have h2 : (0 : Int) < (m : Int) := by omega
        have hq : m / 10 < 10 ^ f' := by rw [Nat.pow_succ] at hf; exact Nat.div_lt_of_lt_mul (by omega)
        have HQ := hide hq
        clear hl hf hq
        obtain ⟨c, hc1, hc2⟩ : ∃ c : UInt8, 48 + (m : Int) % 10 = (c.toNat : Int) ∧ UInt8.ofNat (48 + m % 10) = c := ⟨_, by simp; omega, rfl⟩
        rw [hc2] at HL
        have hcv := conv_1 wr.heap.size c (48 + (m : Int) % 10) hc1 _ (cell_1 wr (.int .u8 (48 + (m : Int) % 10)) 5)
        obtain ⟨a1, a2⟩ := app_1 c t
        have HA := hide a1
        have HB := hide (hbel.alloc hbel.size (.cells #[.int .u8 (48 + (m : Int) % 10)] 5))
        have hts : t.size ≤ 40 := by omega
        clear hc1 hc2 a1
        go_wp2
        go_roundw
        case rel => exact ⟨m / 10, f', _, by go_num, rfl, by omega, HQ.out, by omega, by rw [a2]; omega, by rw [HA.out]; exact HL.out, HB.out⟩
        case measure => simp [intOf]; omega

theorem markText_i (x : Int) (k : Nat) (w : World) (hx : x = (k : Int)) (hk : k ≤ 1000000000) :
    Calls Try.prog 73 #[.int .i64 x] w fun e w' => e = .returned (.string (markT k)) ∧ Below w.heap.size w w' := by subst hx; exact markText_any k w hk
/-- the row's k-th value is marked -/
def markV (k : Nat) : V3 := ⟨(k : Int), ((k + 1 : Nat) : Int), markT (k + 2)⟩
def marksV (k n : Nat) : List V3 := (List.range n).map fun i => markV (k + 3 * i)
theorem marksV_length (k n : Nat) : (marksV k n).length = n := by simp [marksV]
theorem marksV_succ (k n : Nat) : marksV k (n + 1) = marksV k n ++ [markV (k + 3 * n)] := by simp [marksV, List.range_succ]
def partM (L : List V3) (k j : Nat) : List V3 := marksV k j ++ L.drop j
theorem partM_end {L : List V3} {k j : Nat} (h : L.length ≤ j) : partM L k j = marksV k j := by unfold partM; rw [List.drop_eq_nil_of_le h, List.append_nil]
theorem partM_length {L : List V3} {k j : Nat} (h : j ≤ L.length) : (partM L k j).length = L.length := by unfold partM; rw [List.length_append, marksV_length, List.length_drop]; omega
theorem partM_set {L : List V3} {k j : Nat} (h : j < L.length) :
    (((cells3 (partM L k j)).set (j * 3) (.int .i64 (markV (k + 3 * j)).K)).set (j * 3 + 1) (.int .i64 (markV (k + 3 * j)).N)).set (j * 3 + 2) (.string (markV (k + 3 * j)).S) = cells3 (partM L k (j + 1)) := by
  have h1 : partM L k j = marksV k j ++ L[j] :: L.drop (j + 1) := by unfold partM; rw [List.drop_eq_getElem_cons h]
  have h2 : partM L k (j + 1) = marksV k j ++ markV (k + 3 * j) :: L.drop (j + 1) := by unfold partM; rw [marksV_succ, List.append_assoc]; rfl
  have := cells3_set (marksV k j) (L.drop (j + 1)) (markV (k + 3 * j)) L[j]
  rw [marksV_length] at this
  rw [h1, h2]; exact this

set_option maxRecDepth 100000 in
set_option maxHeartbeats 1600000 in
theorem markValS_any (g cap k0 : Nat) (L : List V3) (w : World) (hown : OwnV w g cap L) (hn : L.length ≤ 1048580) (hk : k0 ≤ 33554500) :
    Calls Try.prog 110 #[.slice (some ⟨g, 0, none⟩) L.length cap, .int .i64 (k0 : Int)] w fun e w' =>
      e = .returned (.int .i64 ((k0 + 3 * L.length : Nat) : Int)) ∧ OwnV w' g cap (marksV k0 L.length) ∧ (∀ q, q < w.heap.size → q ≠ g → w'.heap[q]? = w.heap[q]?) ∧ Below g w w' := by
  have hg := hown.lt
  obtain ⟨n, hN⟩ : ∃ n, n = L.length := ⟨_, rfl⟩
  have hown0 : w.ownsRow 0 105 3 (.slice (some ⟨g, 0, none⟩) n cap) n (cells3 L) := by rw [hN]; exact hown
  rw [← hN] at hn ⊢
  have HN := hide hN
  have HO := hide hown0
  clear hN hown hown0
  have hfin : ∀ {W : World}, W.ownsRow 0 105 3 (.slice (some ⟨g, 0, none⟩) n cap) n (cells3 (marksV k0 n)) → OwnV W g cap (marksV k0 n) := fun h => OwnV.of h
  have HFin := hide (fun W => @hfin W)
  clear hfin
  go_enter Try.func110, Try.ntmps110
  go_wp2
  go_loopw [1, 5] (fun kk i wr => ∃ j : Nat, j ≤ n ∧ i = .int .i64 j ∧ (∃ m : Nat, m = k0 + 3 * j ∧ kk = .int .i64 (m : Int)) ∧ wr.ownsRow 0 105 3 (.slice (some ⟨g, 0, none⟩) n cap) n (cells3 (partM L k0 j)) ∧ (∀ q, q < w.heap.size → q ≠ g → wr.heap[q]? = w.heap[q]?) ∧ Below g w wr) (fun _ i _ => n - (intOf i).toNat)
  case atStart => exact ⟨0, Nat.zero_le _, rfl, ⟨k0, rfl, rfl⟩, HO.out, fun q _ _ => rfl, Below.refl _ _⟩
  case round =>
    obtain ⟨j, hj, rfl, ⟨m, hm, rfl⟩, hown, hoth, hbel⟩ := hrel
    have HM := hide hm
    have hm2 : m ≤ 40000000 := by omega
    clear hm
    have HOth := hide hoth
    clear hoth
    by_cases hlt : j < n
    · have hlen : (cells3 (partM L k0 j)).length = n * 3 := by rw [cells3_length, partM_length (by rw [← HN.out]; omega), ← HN.out]
      have hmem : ∀ i, i < 3 → ∃ u, wr.cell? ⟨g, j * 3 + i, none⟩ = some u := fun i hi => by
        rw [hown.cellAt (j * 3 + i) (by omega), List.getElem?_eq_getElem (by omega)]
        exact ⟨_, rfl⟩
      obtain ⟨u0, m0⟩ := hmem 0 (by omega)
      obtain ⟨u1, m1⟩ := hmem 1 (by omega)
      rw [Nat.add_zero] at m0
      have f0 := hown.frozenAt (j * 3)
      have f1 := hown.frozenAt (j * 3 + 1)
      clear hmem hlen
      have hs1 := hown.stored (j * 3) (.int .i64 (m : Int))
      have hs2 := hs1.1.stored (j * 3 + 1) (.int .i64 ((m : Int) + 1))
      have HS2 := hide hs2.1
      have HB2 : Hid (Below g w ((wr.setCell ⟨g, j * 3, none⟩ (.int .i64 (m : Int))).setCell ⟨g, j * 3 + 1, none⟩ (.int .i64 ((m : Int) + 1)))) := (hbel.setCell (Nat.le_refl _) _).setCell (Nat.le_refl _) _
      have HO2 : Hid (∀ q, q < w.heap.size → q ≠ g → ((wr.setCell ⟨g, j * 3, none⟩ (.int .i64 (m : Int))).setCell ⟨g, j * 3 + 1, none⟩ (.int .i64 ((m : Int) + 1))).heap[q]? = w.heap[q]?) := fun q hq hne => by
        have hq2 : q < wr.heap.size := Nat.lt_of_lt_of_le hq hbel.size
        rw [hs2.2.block q (Nat.lt_of_lt_of_le hq2 hs1.2.size) (by simp; omega), hs1.2.block q hq2 (by simp; omega)]
        exact HOth.out q hq hne
      clear hs1 hs2 hbel hown HOth
      go_wp2_with fail
      refine (markText_i ((m : Int) + 1 + 1) (m + 2) _ (by omega) (by omega)).mono ?_
      generalize (wr.setCell ⟨g, j * 3, none⟩ (.int .i64 (m : Int))).setCell ⟨g, j * 3 + 1, none⟩ (.int .i64 ((m : Int) + 1)) = w2 at HS2 HB2 HO2
      rintro e w3 ⟨rfl, hb3⟩
      have ho3 := ownsRow_below HS2.out hb3
      have B3 : Below g w w3 := HB2.out.trans (hb3.mono (Nat.le_trans (Nat.le_of_lt hg) HB2.out.size))
      have HO3 : Hid (∀ q, q < w.heap.size → q ≠ g → w3.heap[q]? = w.heap[q]?) := fun q hq hne => by
        rw [hb3.block q (Nat.lt_of_lt_of_le hq HB2.out.size)]; exact HO2.out q hq hne
      have hlen : (((cells3 (partM L k0 j)).set (j * 3) (.int .i64 (m : Int))).set (j * 3 + 1) (.int .i64 ((m : Int) + 1))).length = n * 3 := by
        rw [List.length_set, List.length_set, cells3_length, partM_length (by rw [← HN.out]; omega), ← HN.out]
      obtain ⟨u2, m2⟩ : ∃ u, w3.cell? ⟨g, j * 3 + 2, none⟩ = some u := by
        rw [ho3.cellAt (j * 3 + 2) (by omega), List.getElem?_eq_getElem (by omega)]
        exact ⟨_, rfl⟩
      have f2 := ho3.frozenAt (j * 3 + 2)
      have hs3 := ho3.stored (j * 3 + 2) (.string (markT (m + 2)))
      have hset := partM_set (L := L) (k := k0) (j := j) (by rw [← HN.out]; exact hlt)
      have e1 : (markV (k0 + 3 * j)).K = (m : Int) := by rw [← HM.out]; rfl
      have e2 : (markV (k0 + 3 * j)).N = (m : Int) + 1 := by rw [← HM.out]; show ((m + 1 : Nat) : Int) = _; omega
      have e3 : (markV (k0 + 3 * j)).S = markT (m + 2) := by rw [← HM.out]; rfl
      rw [e1, e2, e3] at hset
      have HS3 : Hid ((w3.setCell ⟨g, j * 3 + 2, none⟩ (.string (markT (m + 2)))).ownsRow 0 105 3 (.slice (some ⟨g, 0, none⟩) n cap) n (cells3 (partM L k0 (j + 1)))) := by
        have := hs3.1
        rw [hset] at this
        exact this
      have HB3 : Hid (Below g w (w3.setCell ⟨g, j * 3 + 2, none⟩ (.string (markT (m + 2))))) := B3.setCell (Nat.le_refl _) _
      have HO4 : Hid (∀ q, q < w.heap.size → q ≠ g → (w3.setCell ⟨g, j * 3 + 2, none⟩ (.string (markT (m + 2)))).heap[q]? = w.heap[q]?) := fun q hq hne => by
        rw [hs3.2.block q (Nat.lt_of_lt_of_le hq B3.size) (by simp; omega)]; exact HO3.out q hq hne
      clear hs3 hset e1 e2 e3 hlen ho3 B3 hb3 m0 m1 f0 f1
      generalize markT (m + 2) = tx at HS3 HB3 HO4 ⊢
      go_wp2
      go_roundw
      case rel => exact ⟨j + 1, by omega, by go_num, ⟨m + 3, by rw [HM.out]; omega, by go_num⟩, HS3.out, HO4.out, HB3.out⟩
      case measure => simp [intOf]; omega
    · obtain rfl : j = n := by omega
      rw [partM_end (by rw [← HN.out]; exact Nat.le_refl _)] at hown
      have HF := hide (HFin.out wr hown)
      clear hown
      go_wp2
      go_ret
      exact ⟨by rw [HM.out]; rfl, HF.out, HOth.out, hbel⟩

end Go.Proofs.Ytfgigcdfmkfkjaa
/-
  Rows of texts: what a slice of them reads as (RdS), whether one is among them, and the contracts of the laws' own helpers on them.
-/
namespace Go.Proofs.Ytfgigcdfmkfkjaa
open Go.RowKit
set_option linter.unusedVariables false

def valsS (L : List ByteArray) : List Value := L.map Value.string
def sAt (L : List ByteArray) (i : Nat) : ByteArray := L.getD i ⟨#[]⟩
theorem sAt_in {L : List ByteArray} {i : Nat} (h : i < L.length) : sAt L i = L[i] := by simp [sAt, List.getD, h]
theorem valsS_length (L : List ByteArray) : (valsS L).length = L.length := by simp [valsS]
theorem valsS_get {L : List ByteArray} {i : Nat} (h : i < L.length) : (valsS L)[i]? = some (.string (sAt L i)) := by rw [sAt_in h]; simp [valsS, h]
theorem valsS_snoc (L : List ByteArray) (x : ByteArray) : valsS L ++ [.string x] = valsS (L ++ [x]) := by simp [valsS]
def RdS (w : World) (a : Option Addr) (L : List ByteArray) : Prop := ∀ i, i < L.length → ∃ b off, a = some ⟨b, off, none⟩ ∧ w.cell? ⟨b, off + i, none⟩ = some (.string (sAt L i))
theorem RdS.open {w : World} {a : Option Addr} {L : List ByteArray} (h : RdS w a L) (hp : 0 < L.length) :
    ∃ b off, a = some ⟨b, off, none⟩ ∧ b < w.heap.size ∧ ∀ i, i < L.length → w.cell? ⟨b, off + i, none⟩ = some (.string (sAt L i)) := by
  obtain ⟨b, off, rfl, h0⟩ := h 0 hp
  refine ⟨b, off, rfl, World.block_lt_of_cell? w _ h0, fun i hi => ?_⟩
  obtain ⟨b2, off2, e, h1⟩ := h i hi
  simp only [Option.some.injEq, Addr.mk.injEq] at e
  rw [e.1, e.2.1]; exact h1
theorem RdS.below {w w' : World} {a : Option Addr} {L : List ByteArray} (h : RdS w a L) (hb : Below w.heap.size w w') : RdS w' a L := by
  intro i hi
  obtain ⟨b, off, e, h0⟩ := h i hi
  exact ⟨b, off, e, by rw [hb.cell (World.block_lt_of_cell? w _ h0)]; exact h0⟩
theorem rdS_owns {w : World} {base n : Nat} {T : TypeId} {v : Value} {L : List ByteArray} (h : w.ownsRow base T 1 v n (valsS L)) :
    ∃ a cap, v = .slice a L.length cap ∧ RdS w a L ∧ n = L.length := by
  have hn : n = L.length := by have := h.1; rw [valsS_length] at this; omega
  subst hn
  rcases h.2 with ⟨rfl, h0⟩ | ⟨g, cap, cur, rfl, hb, hg, hnc, hcm, hsz, htake⟩
  · exact ⟨none, 0, by rw [h0], fun i hi => by omega, rfl⟩
  · refine ⟨_, cap, rfl, fun i hi => ⟨g, 0, rfl, ?_⟩, rfl⟩
    have e0 := h.cellAt i (by omega)
    rw [Nat.zero_add, e0]; exact valsS_get hi
theorem rdS_of {w : World} {base n m c : Nat} {T : TypeId} {a : Option Addr} {L : List ByteArray} (h : w.ownsRow base T 1 (.slice a m c) n (valsS L)) : RdS w a L := by
  obtain ⟨a', c', e, hr, -⟩ := rdS_owns h
  simp only [Value.slice.injEq] at e
  rw [e.1]; exact hr
theorem below_dnS {w u : World} {n : Nat} (k : Below (w.drewN n).heap.size (w.drewN n) u) : Below w.heap.size w u :=
  (show Below w.heap.size w (w.drewN n) from ⟨rfl, rfl, rfl, Nat.le_refl _, fun _ _ => rfl⟩).trans k
theorem beq_neS {a b : ByteArray} (h : a ≠ b) : (a.toList == b.toList) = false := by
  simp only [beq_eq_false_iff_ne, ne_eq]
  exact fun e => h (toList_inj e)
def hasS (L : List ByteArray) (s : ByteArray) : Bool := L.any fun x => decide (x = s)
theorem hasS_yes {L : List ByteArray} {s : ByteArray} {k : Nat} (hk : k < L.length) (h : sAt L k = s) : hasS L s = true := by
  rw [sAt_in hk] at h
  unfold hasS
  rw [List.any_eq_true]
  exact ⟨L[k], List.getElem_mem hk, by simpa using h⟩
theorem hasS_no {L : List ByteArray} {s : ByteArray} (h : ∀ j, j < L.length → sAt L j ≠ s) : hasS L s = false := by
  rw [Bool.eq_false_iff]
  intro ht
  unfold hasS at ht
  rw [List.any_eq_true] at ht
  obtain ⟨x, hx, e⟩ := ht
  obtain ⟨j, hj, e2⟩ := List.getElem_of_mem hx
  exact h j hj (by rw [sAt_in hj, e2]; simpa using e)
theorem hasS_mem {L : List ByteArray} {s : ByteArray} : hasS L s = true ↔ s ∈ L := by
  unfold hasS
  rw [List.any_eq_true]
  exact ⟨fun ⟨x, hx, e⟩ => by rw [← show x = s by simpa using e]; exact hx, fun h => ⟨s, h, by simp⟩⟩

set_option maxRecDepth 100000 in
set_option maxHeartbeats 1600000 in
theorem l6Has_any (a : Option Addr) (n cap : Nat) (L : List ByteArray) (s : ByteArray) (w : World) (hz : L.length = n) (hr : RdS w a L) (hn : n ≤ 1048580) :
    Calls Try.prog 84 #[.slice a n cap, .string s] w fun e w' => e = .returned (.bool (hasS L s)) ∧ w' = w := by
  have HZ := hide hz
  clear hz
  go_enter Try.func84, Try.ntmps84
  go_wp2
  go_loop [5] (fun i => ∃ (k : Nat), k ≤ n ∧ i = .int .i64 k ∧ ∀ j, j < k → sAt L j ≠ s) (fun i => n - (intOf i).toNat)
  case atStart => exact ⟨0, Nat.zero_le _, rfl, fun j hj => absurd hj (Nat.not_lt_zero _)⟩
  case round =>
    obtain ⟨k, hk, rfl, hall⟩ := hrel
    have HA := hide hall
    clear hall
    by_cases hlt : k < n
    · obtain ⟨b, off, hab, hbw, hc⟩ := hr.open (by rw [HZ.out]; omega)
      have c0 := hc k (by rw [HZ.out]; exact hlt)
      clear hc
      subst hab
      by_cases he : sAt L k = s
      · have HV := hide (hasS_yes (by rw [HZ.out]; exact hlt) he)
        rw [he] at c0
        have k1 : (s.toList == s.toList) = true := by simp
        clear he
        go_wp2
        go_ret
        exact ⟨ret_bool HV.out.symm, rfl⟩
      · have k1 := beq_neS he
        have HE := hide he
        clear he
        go_wp2
        go_round
        case rel => exact ⟨k + 1, by omega, by go_num, fun j hj => by
            by_cases hjk : j = k
            · rw [hjk]; exact HE.out
            · exact HA.out j (by omega)⟩
        case measure => simp [intOf]; omega
    · have HV := hide (hasS_no (fun j hj => HA.out j (by rw [HZ.out] at hj; omega)))
      go_wp2
      go_ret
      exact ⟨ret_bool HV.out.symm, rfl⟩

set_option maxRecDepth 100000 in
set_option maxHeartbeats 1600000 in
theorem indexS_any (a : Option Addr) (n cap : Nat) (L : List ByteArray) (s : ByteArray) (w : World) (hz : L.length = n) (hr : RdS w a L) (hn : n ≤ 1048580) :
    Calls Try.prog 149 #[.slice a n cap, .string s] w fun e w' => (∃ r : Int, e = .returned (.int .i64 r) ∧ decide (0 ≤ r) = hasS L s) ∧ w' = w := by
  have HZ := hide hz
  clear hz
  go_enter Try.func149, Try.ntmps149
  go_wp2
  go_loop [8] (fun i => ∃ (k : Nat), k ≤ n ∧ i = .int .i64 k ∧ ∀ j, j < k → sAt L j ≠ s) (fun i => n - (intOf i).toNat)
  case atStart => exact ⟨0, Nat.zero_le _, rfl, fun j hj => absurd hj (Nat.not_lt_zero _)⟩
  case round =>
    obtain ⟨k, hk, rfl, hall⟩ := hrel
    have HA := hide hall
    clear hall
    by_cases hlt : k < n
    · obtain ⟨b, off, hab, hbw, hc⟩ := hr.open (by rw [HZ.out]; omega)
      have c0 := hc k (by rw [HZ.out]; exact hlt)
      clear hc
      subst hab
      by_cases he : sAt L k = s
      · have HV := hide (hasS_yes (by rw [HZ.out]; exact hlt) he)
        rw [he] at c0
        have k1 : (s.toList == s.toList) = true := by simp
        clear he
        go_wp2
        go_ret
        exact ⟨⟨k, rfl, by rw [HV.out]; simp⟩, rfl⟩
      · have k1 := beq_neS (Ne.symm he)
        have HE := hide he
        clear he
        go_wp2
        go_round
        case rel => exact ⟨k + 1, by omega, by go_num, fun j hj => by
            by_cases hjk : j = k
            · rw [hjk]; exact HE.out
            · exact HA.out j (by omega)⟩
        case measure => simp [intOf]; omega
    · have HV := hide (hasS_no (fun j hj => HA.out j (by rw [HZ.out] at hj; omega)))
      go_wp2
      go_ret
      exact ⟨⟨-1, rfl, by rw [HV.out]; rfl⟩, rfl⟩

set_option maxRecDepth 100000 in
theorem containsS_any (a : Option Addr) (n cap : Nat) (L : List ByteArray) (s : ByteArray) (w : World) (hz : L.length = n) (hr : RdS w a L) (hn : n ≤ 1048580) :
    Calls Try.prog 120 #[.slice a n cap, .string s] w fun e w' => e = .returned (.bool (hasS L s)) ∧ w' = w := by
  go_enter Try.func120, Try.ntmps120
  go_wp2_with fail
  refine (indexS_any a n cap L s _ hz hr hn).mono ?_
  rintro e w1 ⟨⟨r, rfl, h⟩, rfl⟩
  have H := hide h
  clear h
  go_wp2
  go_ret
  exact ⟨ret_bool H.out, rfl⟩

def marksS (k n : Nat) : List ByteArray := (List.range n).map fun i => markT (k + i)
theorem marksS_length (k n : Nat) : (marksS k n).length = n := by simp [marksS]
theorem marksS_succ (k n : Nat) : marksS k (n + 1) = marksS k n ++ [markT (k + n)] := by simp [marksS, List.range_succ]
theorem marksS_at {k n i : Nat} (h : i < n) : sAt (marksS k n) i = markT (k + i) := by
  rw [sAt_in (by rw [marksS_length]; exact h)]; simp [marksS]
def partS (xs : List Value) (k j : Nat) : List Value := valsS (marksS k j) ++ xs.drop j
theorem partS_set {xs : List Value} {k j : Nat} (h : j < xs.length) : (partS xs k j).set j (.string (markT (k + j))) = partS xs k (j + 1) := by
  unfold partS
  have hl : (valsS (marksS k j)).length = j := by rw [valsS_length, marksS_length]
  rw [List.set_append_right _ _ (by omega), hl, Nat.sub_self, List.drop_eq_getElem_cons h, List.set_cons_zero, marksS_succ]
  simp [valsS]
theorem partS_end {xs : List Value} {k j : Nat} (h : xs.length ≤ j) : partS xs k j = valsS (marksS k j) := by
  unfold partS; rw [List.drop_eq_nil_of_le h, List.append_nil]
theorem partS_length {xs : List Value} {k j : Nat} (h : j ≤ xs.length) : (partS xs k j).length = xs.length := by
  unfold partS; rw [List.length_append, valsS_length, marksS_length, List.length_drop]; omega

theorem kept1S {W w' : World} {p : Addr} {v : Value} (hb : Below W.heap.size W w') (h : W.cell? p = some v) : w'.cell? p = some v := by rw [hb.cell (World.block_lt_of_cell? W _ h)]; exact h
end Go.Proofs.Ytfgigcdfmkfkjaa
/-
  The variables of a pattern, plainly.
-/
namespace Go.Proofs.Ytfgigcdfmkfkjaa
open Go.RowKit
set_option linter.unusedVariables false

def varStep (l : List ByteArray) (x : A5) : List ByteArray := if x.K = 1 ∧ hasS l x.S = false then l ++ [x.S] else l
/-- each variable once, from the left -/
def varsL (L : List A5) : List ByteArray := L.foldl varStep []
theorem varsL_take {L : List A5} {k : Nat} (h : k < L.length) : varsL (L.take (k + 1)) = varStep (varsL (L.take k)) (eAt L k) := by
  unfold varsL
  rw [List.take_succ_eq_append_getElem h, List.foldl_append, eAt_in h]
  rfl
theorem varStep_yes {l : List ByteArray} {x : A5} (h1 : x.K = 1) (h2 : hasS l x.S = false) : varStep l x = l ++ [x.S] := by unfold varStep; rw [if_pos ⟨h1, h2⟩]
theorem varStep_has {l : List ByteArray} {x : A5} (h2 : hasS l x.S = true) : varStep l x = l := by unfold varStep; rw [if_neg (fun h => by rw [h2] at h; cases h.2)]
theorem varStep_no {l : List ByteArray} {x : A5} (h1 : x.K ≠ 1) : varStep l x = l := by unfold varStep; rw [if_neg (fun h => h1 h.1)]
theorem varStep_len (l : List ByteArray) (x : A5) : (varStep l x).length ≤ l.length + 1 := by unfold varStep; split <;> simp
theorem varsL_len (L : List A5) : ∀ k, k ≤ L.length → (varsL (L.take k)).length ≤ k
  | 0, _ => by simp [varsL]
  | k + 1, h => by
    rw [varsL_take (by omega)]
    have := varStep_len (varsL (L.take k)) (eAt L k)
    have := varsL_len L k (by omega)
    omega
end Go.Proofs.Ytfgigcdfmkfkjaa
/-
  What both VarsOfs answer: varsL, in a row of the call's own.
-/
namespace Go.Proofs.Ytfgigcdfmkfkjaa
open Go.RowKit
set_option linter.unusedVariables false

theorem infoStr : (Try.prog.info? 9).map (fun i => (i.zero, i.size, i.bytes)) = some (some (.string ⟨#[]⟩), 1, 16) := by kernel_rfl
theorem srcS (W : World) (x : ByteArray) : ∀ j u, ([.string x] : List Value)[j]? = some u → (W.alloc (.cells #[.string x] 9)).cell? ((⟨W.heap.size, 0, none⟩ : Addr).add j) = some u := by
  intro j u hj
  rw [Addr.add_lit, Nat.zero_add]
  have hb : (W.alloc (.cells #[.string x] 9)).heap[W.heap.size]? = some (.cells #[.string x] 9 (0, 0)) := by rw [heap_alloc_new]
  match j, hj with
  | 0, hj => rw [cell_of_row _ _ 0 _ _ (0, 0) hb]; simpa using hj
theorem oneS (x : ByteArray) : ∀ u ∈ ([.string x] : List Value), u.oneCell' = true := by
  intro u hu
  simp only [List.mem_cons, List.not_mem_nil, or_false] at hu
  rw [hu]; rfl

theorem ownsRow_lowS {w : World} {base base' size n : Nat} {e : TypeId} {v : Value} {xs : List Value} (h : w.ownsRow base e size v n xs) (hb : base' ≤ base) : w.ownsRow base' e size v n xs := by
  refine ⟨h.1, ?_⟩
  rcases h.2 with h2 | ⟨g, cap, cur, h1, hb', rest⟩
  · exact .inl h2
  · exact .inr ⟨g, cap, cur, h1, Nat.le_trans hb hb', rest⟩
/-- a row of texts of the call's own -/
def GivesS (e : Ending) (w' : World) (base : Nat) (l : List ByteArray) : Prop := ∃ v, e = .returned v ∧ w'.ownsRow base 9 1 v l.length (valsS l)

/-- a text that is there once -/
def addS (l : List ByteArray) (s : ByteArray) : List ByteArray := if hasS l s = true then l else l ++ [s]
theorem addS_yes {l : List ByteArray} {s : ByteArray} (h : hasS l s = true) : addS l s = l := by unfold addS; rw [if_pos h]
theorem addS_no {l : List ByteArray} {s : ByteArray} (h : hasS l s = false) : addS l s = l ++ [s] := by unfold addS; rw [h]; rfl
theorem addS_len (l : List ByteArray) (s : ByteArray) : (addS l s).length ≤ l.length + 1 := by unfold addS; split <;> simp
theorem varStep_add {l : List ByteArray} {x : A5} (h : x.K = 1) : varStep l x = addS l x.S := by
  unfold varStep addS
  cases hasS l x.S <;> simp [h]
/-- the variables of these arguments behind those that are there -/
def varsF (l : List ByteArray) (L : List A5) : List ByteArray := L.foldl varStep l
theorem varsF_nil (L : List A5) : varsF [] L = varsL L := rfl
theorem varsF_take {l : List ByteArray} {L : List A5} {k : Nat} (h : k < L.length) : varsF l (L.take (k + 1)) = varStep (varsF l (L.take k)) (eAt L k) := by
  unfold varsF
  rw [List.take_succ_eq_append_getElem h, List.foldl_append, eAt_in h]
  rfl
theorem varsF_len (l : List ByteArray) (L : List A5) : ∀ k, k ≤ L.length → (varsF l (L.take k)).length ≤ l.length + k
  | 0, _ => by simp [varsF]
  | k + 1, h => by
    rw [varsF_take (by omega)]
    have := varStep_len (varsF l (L.take k)) (eAt L k)
    have := varsF_len l L k (by omega)
    omega
/-- a row of texts at or behind a world's end, where all that was in that world is left -/
def RowS (w0 : World) (v : Value) (l : List ByteArray) (w : World) : Prop := w.ownsRow w0.heap.size 9 1 v l.length (valsS l) ∧ Below w0.heap.size w0 w
theorem RowS.nil (w : World) : RowS w (.slice none 0 0) [] w := ⟨World.ownsRow_nil _ _ _ _, Below.refl _ _⟩
theorem RowS.alloc {w0 w : World} {v : Value} {l : List ByteArray} (h : RowS w0 v l w) (o : Obj) : RowS w0 v l (w.alloc o) := ⟨h.1.alloc o, h.2.alloc h.2.size o⟩
theorem RowS.later {w0 w w' : World} {v : Value} {l : List ByteArray} (h : RowS w0 v l w) (hb : Below w.heap.size w w') : RowS w0 v l w' := ⟨ownsRow_below' h.1 hb, h.2.trans (hb.mono h.2.size)⟩
theorem RowS.from {w1 w0 w : World} {v : Value} {l : List ByteArray} (h : RowS w0 v l w) (hb : Below w1.heap.size w1 w0) : RowS w1 v l w := ⟨ownsRow_lowS h.1 hb.size, hb.trans (h.2.mono hb.size)⟩

set_option maxRecDepth 100000 in
set_option maxHeartbeats 3200000 in
theorem withText_any (w0 : World) (v : Value) (l : List ByteArray) (s : ByteArray) (w : World) (h : RowS w0 v l w) (hs : s.size ≤ 1048580) (hl : l.length ≤ 1048579) :
    Calls Try.prog 81 #[v, .string s] w fun e w' => ∃ v', e = .returned v' ∧ RowS w0 v' (addS l s) w' := by
  obtain ⟨i0, hi, hz0, hz1, hz2⟩ := info_parts infoStr
  obtain ⟨va, vc, e0, r3, -⟩ := rdS_owns h.1
  subst e0
  have HH := hide h
  cases hh : hasS l s
  · have HA := hide (addS_no hh)
    clear h
    go_enter Try.func81, Try.ntmps81
    go_wp2_with fail
    refine (containsS_any va l.length vc l s _ rfl r3 (by omega)).mono ?_
    rintro e w3 ⟨rfl, rfl⟩
    rw [hh]
    go_wp2_with fail
    refine (cloneS_any s _ (by omega)).mono ?_
    rintro e w3 ⟨rfl, hb3⟩
    have H4 := hide ((HH.out.later hb3).alloc (.cells #[.string s] 9))
    have HSrc := hide (srcS w3 s)
    have HZ4 := H4.out.2.size
    clear HH r3 hb3
    go_wp2_with (at_builtin; refine wpList_append_lies _ rfl (.tmp 9) (.tmp 12) 74 rfl w0.heap.size 9 i0 (.string ⟨#[]⟩) 1 16 Try.underlying74 hi hz0 hz1 hz2 rfl (by omega) (.slice va l.length vc) l.length (valsS l) rfl H4.out.1 ⟨w3.heap.size, 0, none⟩ 1 1 [.string s] ?hx rfl HSrc.out (oneS s) (by omega) (by unfold maxLen; omega) (by omega) HZ4 _ rfl ?_)
    case hx => simp [Act.eval]
    intro g5 c5 w5 ho5 hg5 hat5 hlt5
    have HF : Hid (RowS w0 (.slice (some ⟨g5, 0, none⟩) (l.length + 1) c5) (addS l s) w5) := by
      refine ⟨?_, H4.out.2.grown hg5 HZ4 (fun k hk => (H4.out.1.lt k hk).1)⟩
      rw [HA.out, ← valsS_snoc, List.length_append]
      exact ho5
    clear ho5 hg5 hat5 hlt5 HSrc H4 HZ4
    go_wp2
    go_ret
    exact ⟨_, rfl, HF.out⟩
  · have HA := hide (addS_yes hh)
    clear h
    go_enter Try.func81, Try.ntmps81
    go_wp2_with fail
    refine (containsS_any va l.length vc l s _ rfl r3 (by omega)).mono ?_
    rintro e w3 ⟨rfl, rfl⟩
    rw [hh]
    go_wp2
    go_ret
    exact ⟨_, rfl, by rw [HA.out]; exact HH.out⟩

set_option maxRecDepth 100000 in
set_option maxHeartbeats 3200000 in
theorem withVars_any (w0 : World) (v : Value) (l : List ByteArray) (kd : ByteArray) (a : Option Addr) (cap : Nat) (L : List A5) (nt : Bool) (w : World) (h : RowS w0 v l w) (hr : RdArg w0 a L) (hs : ∀ x ∈ L, x.small) (hm : l.length + L.length ≤ 1048579) :
    Calls Try.prog 82 #[v, .agg #[.string kd, .slice a L.length cap, .bool nt]] w fun e w' => ∃ v', e = .returned v' ∧ RowS w0 v' (varsF l L) w' := by
  obtain ⟨n, hN⟩ : ∃ n, n = L.length := ⟨_, rfl⟩
  rw [← hN] at hm ⊢
  have HN := hide hN
  have HS := hide hs
  have HE : Hid (varsF l (L.take n) = varsF l L) := by unfold Hid; rw [hN, List.take_length]
  have h1 := h.alloc (.cells #[.string kd, .slice a n cap, .bool nt] 79)
  clear hN hs h
  go_enter Try.func82, Try.ntmps82
  go_wp2
  generalize w.alloc (.cells #[.string kd, .slice a n cap, .bool nt] 79) = w1 at h1
  go_loopw [0, 10] (fun v i wr => ∃ (k : Nat), k ≤ n ∧ i = .int .i64 k ∧ RowS w0 v (varsF l (L.take k)) wr) (fun _ i _ => n - (intOf i).toNat)
  case atStart => exact ⟨0, Nat.zero_le _, rfl, h1⟩
  case round =>
    clear h1
    obtain ⟨k, hk, rfl, hrow⟩ := hrel
    have HR := hide hrow
    clear hrow
    by_cases hlt : k < n
    · have hlL : k < L.length := by rw [← HN.out]; exact hlt
      obtain ⟨b, off, hab, hbw, hc⟩ := RdArg.cells (hr.below HR.out.2) (by omega)
      obtain ⟨c0, c1, c2, c3, c4⟩ := hc k hlL
      clear hc
      have hS : (eAt L k).small := by rw [eAt_in hlL]; exact HS.out _ (List.getElem_mem _)
      have hS1 := hS.1
      have HT := hide (varsF_take (l := l) hlL)
      have hvl := varsF_len l L k (by omega)
      subst hab
      obtain ⟨x, hx⟩ : ∃ x, x = eAt L k := ⟨_, rfl⟩
      rw [← hx] at c0 c1 c2 c3 c4 HT hS1
      obtain ⟨K, S, VK, VN, VS⟩ := x
      clear hx hS hlL
      simp only at c0 c1 c2 c3 c4 hS1
      generalize varsF l (L.take k) = l2 at HR HT hvl
      have H2 := HR.out.alloc (.cells #[.int .i64 K, .string S, .int .i64 VK, .int .i64 VN, .string VS] 157)
      by_cases h1 : K = 1
      · subst h1
        rw [varStep_add rfl] at HT
        go_wp2_with fail
        refine (withText_any w0 _ l2 S _ H2 (by omega) (by omega)).mono ?_
        rintro e w3 ⟨v', rfl, h3⟩
        have H3 := hide h3
        clear h3 H2 HR c0 c1 c2 c3 c4
        go_wp2
        go_roundw
        case rel => exact ⟨k + 1, by omega, by go_num, by rw [HT.out]; exact H3.out⟩
        case measure => simp [intOf]; omega
      · rw [varStep_no h1] at HT
        have k1 : (K == 1) = false := by simpa using h1
        have H3 := hide H2
        clear h1 H2 HR
        go_wp2
        go_roundw
        case rel => exact ⟨k + 1, by omega, by go_num, by rw [HT.out]; exact H3.out⟩
        case measure => simp [intOf]; omega
    · obtain rfl : k = n := by omega
      go_wp2
      go_ret
      exact ⟨_, rfl, by rw [← HE.out]; exact HR.out⟩

set_option maxRecDepth 100000 in
set_option maxHeartbeats 3200000 in
theorem implVarsOf_any (kd : ByteArray) (a : Option Addr) (cap : Nat) (L : List A5) (nt : Bool) (w : World) (hr : RdArg w a L) (hs : ∀ x ∈ L, x.small) (hm : L.length ≤ 1048576) :
    Calls Try.prog 41 #[.agg #[.string kd, .slice a L.length cap, .bool nt]] w fun e w' => GivesS e w' w.heap.size (varsL L) ∧ Below w.heap.size w w' := by
  have b1 := below_al w (.cells #[.string kd, .slice a L.length cap, .bool nt] 79)
  go_enter Try.func41, Try.ntmps41
  go_wp2_with fail
  refine (withVars_any (w.alloc (.cells #[.string kd, .slice a L.length cap, .bool nt] 79)) _ [] kd a cap L nt _ (RowS.nil _) (hr.below b1) hs (by simp; omega)).mono ?_
  rintro e w1 ⟨v', rfl, h⟩
  have H := hide (h.from b1)
  clear h
  go_wp2
  go_ret
  exact ⟨⟨_, rfl, H.out.1⟩, H.out.2⟩

set_option maxRecDepth 100000 in
set_option maxHeartbeats 3200000 in
theorem specVarsOf_any (kd : ByteArray) (a : Option Addr) (cap : Nat) (L : List A5) (nt : Bool) (w : World) (hr : RdArg w a L) (hs : ∀ x ∈ L, x.small) (hm : L.length ≤ 1048576) :
    Calls Try.prog 83 #[.agg #[.string kd, .slice a L.length cap, .bool nt]] w fun e w' => GivesS e w' w.heap.size (varsL L) ∧ Below w.heap.size w w' := by
  obtain ⟨i0, hi, hz0, hz1, hz2⟩ := info_parts infoStr
  obtain ⟨n, hN⟩ : ∃ n, n = L.length := ⟨_, rfl⟩
  rw [← hN] at hm ⊢
  have b1 := below_al w (.cells #[.string kd, .slice a n cap, .bool nt] 79)
  have hP := boxk_new w #[.string kd, .slice a n cap, .bool nt] 79
  have hsz : w.heap.size + 1 ≤ (w.alloc (.cells #[.string kd, .slice a n cap, .bool nt] 79)).heap.size := by simp
  have HN := hide hN
  have HS := hide hs
  have HE : Hid (varsL (L.take n) = varsL L) := by unfold Hid; rw [hN, List.take_length]
  clear hN hs
  go_enter Try.func83, Try.ntmps83
  go_wp2
  have ho0 : ((w.alloc (.cells #[.string kd, .slice a n cap, .bool nt] 79)).alloc (.cells #[] 9)).ownsRow (w.heap.size + 1) 9 1 (.slice (some ⟨w.heap.size + 1, 0, none⟩) 0 0) 0 [] := by
    have := World.ownsRow_lit (base := w.heap.size + 1) (e := 9) (size := 1) (w.alloc (.cells #[.string kd, .slice a n cap, .bool nt] 79)) #[] 0 hsz (by unfold maxLen; omega) rfl
    rw [World.size_alloc] at this
    exact this
  have b2 := b1.alloc (by omega) (.cells #[] 9)
  have hP2 := box_old hP (by omega) (.cells #[] 9)
  have hsz2 : w.heap.size + 1 ≤ ((w.alloc (.cells #[.string kd, .slice a n cap, .bool nt] 79)).alloc (.cells #[] 9)).heap.size := by simp
  generalize (w.alloc (.cells #[.string kd, .slice a n cap, .bool nt] 79)).alloc (.cells #[] 9) = w1 at b2 hsz2 hP2 ho0
  have HP := hide hP2
  clear hP hP2 hsz b1
  go_loopw [3, 4] (fun v i wr => ∃ (k : Nat), k ≤ n ∧ i = .int .i64 k ∧ wr.ownsRow (w.heap.size + 1) 9 1 v (varsL (L.take k)).length (valsS (varsL (L.take k))) ∧ Below (w.heap.size + 1) w1 wr) (fun _ i _ => n - (intOf i).toNat)
  case atStart => exact ⟨0, Nat.zero_le _, rfl, ho0, Below.refl _ _⟩
  case round =>
    clear ho0
    obtain ⟨k, hk, rfl, hown, hbel⟩ := hrel
    obtain ⟨va, vc, e0, -, -⟩ := rdS_owns hown
    have hB : Below w.heap.size w wr := b2.trans (hbel.mono (Nat.le_succ _))
    have hws : w.heap.size + 1 ≤ wr.heap.size := Nat.le_trans hsz2 hbel.size
    have p1 := boxk_cell (box_below HP.out hbel (by omega)) 1 _ rfl
    by_cases hlt : k < n
    · have hlL : k < L.length := by rw [← HN.out]; exact hlt
      obtain ⟨b, off, hab, hbw, hc⟩ := RdArg.cells (hr.below hB) (by omega)
      obtain ⟨c0, c1, c2, c3, c4⟩ := hc k hlL
      clear hc c2 c3 c4
      have HT := hide (varsL_take hlL)
      have hvl := varsL_len L k (by omega)
      subst hab e0
      obtain ⟨x, hx⟩ : ∃ x, x = eAt L k := ⟨_, rfl⟩
      rw [← hx] at c0 c1 HT
      obtain ⟨K, S, VK, VN, VS⟩ := x
      clear hx hlL
      simp only at c0 c1
      generalize varsL (L.take k) = l at hown HT hvl
      by_cases h1 : K = 1
      · subst h1
        have r3 := rdS_of hown
        have HO3 := hide hown
        have HB3 := hide hbel
        cases hh : hasS l S
        · rw [varStep_yes rfl hh] at HT
          have HO4 := hide (HO3.out.alloc (.cells #[.string S] 9))
          have HB4 := hide (HB3.out.alloc hws (.cells #[.string S] 9))
          have HSrc := hide (srcS wr S)
          have HZ4 : Hid (w.heap.size + 1 ≤ (wr.alloc (.cells #[.string S] 9)).heap.size) := by unfold Hid; simp; omega
          clear hown hB hbel
          go_wp2_with fail
          refine (l6Has_any va l.length vc l S _ rfl r3 (by omega)).mono ?_
          rintro e w3 ⟨rfl, rfl⟩
          rw [hh]
          clear HO3 HB3 r3
          go_wp2_with (at_builtin; refine wpList_append_lies _ rfl (.tmp 31) (.tmp 38) 74 rfl (w.heap.size + 1) 9 i0 (.string ⟨#[]⟩) 1 16 Try.underlying74 hi hz0 hz1 hz2 rfl (by omega) (.slice va l.length vc) l.length (valsS l) rfl HO4.out ⟨w3.heap.size, 0, none⟩ 1 1 [.string S] ?hx rfl HSrc.out (oneS S) (by omega) (by unfold maxLen; omega) (by omega) HZ4.out _ rfl ?_)
          case hx => simp [Act.eval]
          intro g5 c5 w5 ho5 hg5 hat5 hlt5
          have HL5 : Hid ((varsL (L.take (k + 1))).length = l.length + 1) := by unfold Hid; rw [HT.out, List.length_append]; rfl
          have HO5 : Hid (w5.ownsRow (w.heap.size + 1) 9 1 (.slice (some ⟨g5, 0, none⟩) (l.length + 1) c5) (varsL (L.take (k + 1))).length (valsS (varsL (L.take (k + 1))))) := by
            unfold Hid
            rw [HL5.out, HT.out, ← valsS_snoc]
            exact ho5
          have HB5 := hide (HB4.out.grown hg5 HZ4.out (fun k hk => (HO4.out.lt k hk).1))
          clear ho5 hg5 hat5 hlt5 HO4 HSrc HB4
          go_wp2
          go_roundw
          case rel => exact ⟨k + 1, by omega, by go_num, HO5.out, HB5.out⟩
          case measure => simp [intOf]; omega
        · rw [varStep_has hh] at HT
          clear hown hB hbel
          go_wp2_with fail
          refine (l6Has_any va l.length vc l S _ rfl r3 (by omega)).mono ?_
          rintro e w3 ⟨rfl, rfl⟩
          rw [hh]
          go_wp2
          go_roundw
          case rel => exact ⟨k + 1, by omega, by go_num, by rw [HT.out]; exact HO3.out, HB3.out⟩
          case measure => simp [intOf]; omega
      · rw [varStep_no h1] at HT
        have k1 : (K == 1) = false := by simpa using h1
        have HO3 := hide hown
        have HB3 := hide hbel
        clear hown hB hbel h1
        go_wp2
        go_roundw
        case rel => exact ⟨k + 1, by omega, by go_num, by rw [HT.out]; exact HO3.out, HB3.out⟩
        case measure => simp [intOf]; omega
    · obtain rfl : k = n := by omega
      have HF : Hid (GivesS (.returned (.slice va (varsL (L.take k)).length vc)) wr w.heap.size (varsL L)) := by
        refine ⟨_, rfl, ?_⟩
        rw [← HE.out]
        subst e0
        exact ownsRow_lowS hown (Nat.le_succ _)
      subst e0
      go_wp2
      go_ret
      exact ⟨HF.out, hB⟩
end Go.Proofs.Ytfgigcdfmkfkjaa
/-
  What a rule's patterns bind, plainly: those that are not Not, their variables, all kinds.
-/
namespace Go.Proofs.Ytfgigcdfmkfkjaa
open Go.RowKit
set_option linter.unusedVariables false

theorem foldl_snoc {α β : Type} [Inhabited α] (f : β → α → β) (b : β) {L : List α} {k : Nat} (h : k < L.length) : (L.take (k + 1)).foldl f b = f ((L.take k).foldl f b) (eAt L k) := by
  rw [List.take_succ_eq_append_getElem h, List.foldl_append, eAt_in h]; rfl
/-- the patterns that are not Not -/
def posB (J : List PE) : List PE := J.filter (fun p => !p.nt)
theorem posB_take {J : List PE} {k : Nat} (h : k < J.length) : posB (J.take (k + 1)) = posB (J.take k) ++ (if (eAt J k).nt = true then [] else [eAt J k]) := by
  unfold posB
  rw [List.take_succ_eq_append_getElem h, List.filter_append, eAt_in h]
  cases hh : J[k].nt <;> simp [hh]
theorem posB_len (J : List PE) : (posB J).length ≤ J.length := List.length_filter_le _ _
theorem posB_take_len (J : List PE) (k : Nat) : (posB (J.take k)).length ≤ J.length := Nat.le_trans (posB_len _) (by rw [List.length_take]; omega)
/-- their variables behind those that are there -/
def varsB (l : List ByteArray) (J : List PE) : List ByteArray := J.foldl (fun l p => varsF l p.L) l
def kindsL (l : List ByteArray) (J : List PE) : List ByteArray := J.foldl (fun l p => addS l p.kd) l
theorem varsF_len' (l : List ByteArray) (L : List A5) : (varsF l L).length ≤ l.length + L.length := by
  have := varsF_len l L L.length (Nat.le_refl _)
  rw [List.take_length] at this; exact this
theorem varsB_len (l : List ByteArray) : ∀ J : List PE, (varsB l J).length ≤ l.length + (J.map PE.sz).sum
  | [] => by simp [varsB]
  | x :: r => by
    have h1 := varsB_len (varsF l x.L) r
    have h2 := varsF_len' l x.L
    have h3 : varsB l (x :: r) = varsB (varsF l x.L) r := rfl
    rw [h3]
    simp only [List.map_cons, List.sum_cons]
    have h4 : x.sz = x.kd.size + x.L.length := rfl
    omega
theorem kindsL_len (l : List ByteArray) : ∀ J : List PE, (kindsL l J).length ≤ l.length + J.length
  | [] => by simp [kindsL]
  | x :: r => by
    have h1 := kindsL_len (addS l x.kd) r
    have h2 := addS_len l x.kd
    have h3 : kindsL l (x :: r) = kindsL (addS l x.kd) r := rfl
    rw [h3]
    simp only [List.length_cons]
    omega
theorem sum_sub {α : Type} (wt : α → Nat) (p : α → Bool) : ∀ L : List α, ((L.filter p).map wt).sum ≤ (L.map wt).sum
  | [] => by simp
  | x :: r => by
    have := sum_sub wt p r
    rw [List.filter_cons]
    by_cases h : p x = true
    · rw [if_pos h]; simp only [List.map_cons, List.sum_cons]; omega
    · rw [if_neg h]; simp only [List.map_cons, List.sum_cons]; omega
theorem sum_take {α : Type} (wt : α → Nat) (L : List α) (k : Nat) : ((L.take k).map wt).sum ≤ (L.map wt).sum := totW_le wt L k
/-- the same by what is plain -/
theorem posB_pl {K J : List PE} (h : K.map PE.pl = J.map PE.pl) : (posB K).map PE.pl = (posB J).map PE.pl := by
  have e : ∀ L : List PE, (posB L).map PE.pl = (L.map PE.pl).filter (fun p => !p.nt) := fun L => by
    unfold posB; rw [List.filter_map]; rfl
  rw [e, e, h]
theorem varsB_pl {K J : List PE} (h : K.map PE.pl = J.map PE.pl) (l : List ByteArray) : varsB l K = varsB l J := by
  have e : ∀ L : List PE, varsB l L = (L.map PE.pl).foldl (fun l p => varsF l p.L) l := fun L => by
    unfold varsB; rw [List.foldl_map]; rfl
  rw [e, e, h]
theorem kindsL_pl {K J : List PE} (h : K.map PE.pl = J.map PE.pl) (l : List ByteArray) : kindsL l K = kindsL l J := by
  have e : ∀ L : List PE, kindsL l L = (L.map PE.pl).foldl (fun l p => addS l p.kd) l := fun L => by
    unfold kindsL; rw [List.foldl_map]; rfl
  rw [e, e, h]

/-- texts added one by one -/
def adds (l s : List ByteArray) : List ByteArray := s.foldl addS l
theorem adds_snoc (l s : List ByteArray) (x : ByteArray) : adds l (s ++ [x]) = addS (adds l s) x := by unfold adds; rw [List.foldl_append]; rfl
theorem adds_app (l s t : List ByteArray) : adds l (s ++ t) = adds (adds l s) t := by unfold adds; rw [List.foldl_append]
theorem addS_keep {l : List ByteArray} {x y : ByteArray} (h : x ∈ l) : x ∈ addS l y := by unfold addS; split; exact h; exact List.mem_append_left _ h
theorem addS_mem (l : List ByteArray) (y : ByteArray) : y ∈ addS l y := by
  unfold addS
  by_cases h : hasS l y = true
  · rw [if_pos h]; exact hasS_mem.1 h
  · rw [if_neg h]; simp
theorem adds_keep {x : ByteArray} : ∀ (s l : List ByteArray), x ∈ l → x ∈ adds l s
  | [], l, h => h
  | y :: r, l, h => adds_keep r (addS l y) (addS_keep h)
theorem adds_mem {x : ByteArray} : ∀ (s l : List ByteArray), x ∈ s → x ∈ adds l s
  | y :: r, l, h => by
    rcases List.mem_cons.1 h with rfl | h
    · exact adds_keep r _ (addS_mem l x)
    · exact adds_mem r (addS l y) h
/-- what is there once already can be left out -/
theorem adds_once (l s : List ByteArray) : adds l (adds [] s) = adds l s := by
  have key : ∀ n (s : List ByteArray), s.length = n → adds l (adds [] s) = adds l s := by
    intro n
    induction n with
    | zero => intro s h; rw [List.eq_nil_of_length_eq_zero h]; rfl
    | succ n ih =>
      intro s h
      rcases List.eq_nil_or_concat s with rfl | ⟨r, x, hsx⟩
      · simp at h
      rw [List.concat_eq_append] at hsx
      subst hsx
      have hr : r.length = n := by simpa using h
      have ih := ih r hr
      rw [adds_snoc, adds_snoc, ← ih]
      by_cases hx : hasS (adds [] r) x = true
      · have h1 : x ∈ adds l (adds [] r) := adds_mem _ _ (hasS_mem.1 hx)
        rw [addS_yes hx, addS_yes (hasS_mem.2 h1)]
      · rw [addS_no (by simpa using hx), adds_snoc]
  exact key _ s rfl
/-- the variables' names, each as often as it is there -/
def namesOf (L : List A5) : List ByteArray := (L.filter (fun x => decide (x.K = 1))).map A5.S
theorem varsF_names : ∀ (L : List A5) (l : List ByteArray), varsF l L = adds l (namesOf L)
  | [], l => rfl
  | x :: r, l => by
    have h : varsF l (x :: r) = varsF (varStep l x) r := rfl
    rw [h, varsF_names r]
    by_cases h1 : x.K = 1
    · rw [varStep_add h1]; unfold namesOf; rw [List.filter_cons, if_pos (by simpa using h1)]; rfl
    · rw [varStep_no h1]; unfold namesOf; rw [List.filter_cons, if_neg (by simpa using h1)]
/-- the model adds a pattern's own variables -/
theorem varsF_of (l : List ByteArray) (L : List A5) : adds l (varsL L) = varsF l L := by rw [← varsF_nil, varsF_names, varsF_names, adds_once]
end Go.Proofs.Ytfgigcdfmkfkjaa
/-
  A store that came in: what its list of items reads as.
-/
namespace Go.Proofs.Ytfgigcdfmkfkjaa
open Go.ChangeShapes Go.WideShapes Go.ChangeAt Go.RowKit Go.Joins Go.Deep
set_option linter.unusedVariables false
set_option maxRecDepth 100000

/-- lengths that a machine may hold -/
def okI (x : It) : Prop := x.kd.size ≤ maxLen ∧ x.L.length ≤ maxLen ∧ ∀ v ∈ x.L, v.S.size ≤ maxLen
/-- a list of items that came in -/
def IsItems (w : World) (a : Option Addr) (len cap : Nat) (J : List It) : Prop := J.length = len ∧ len ≤ maxLen ∧ RdI w a J ∧ ∀ i, i < J.length → okI (iAt J i)

theorem item_cells {H : Type} {enc : TypeId × Value → H} {w : World} {spare : Nat → Bool} {held : Bool} {n : Nat} {cs : List Value} {x : DataW H × List MemPlace}
    (h : DataW.trod enc Try.prog w 0 spare held n 154 cs = some x) :
    ∃ y : It, cs = y.cells ∧ RdV w y.a y.L ∧ okI y := by
  obtain ⟨y0, y1, m, -, hl, h0, h1⟩ := trod_struct2 Try.underlying154 h
  have hc : Try.prog.cellsOf 154 = 3 := by kernel_rfl
  have hi : Try.prog.cellsOf 3 = 1 := by kernel_rfl
  have hf : Try.prog.cellsOf 152 = 2 := by kernel_rfl
  have hs : Try.prog.cellsOf 9 = 1 := by kernel_rfl
  have hv : Try.prog.cellsOf 150 = 1 := by kernel_rfl
  rw [hc] at hl
  match cs, hl with
  | [c0, c1, c2], _ =>
    simp only [hi, hf, List.drop_zero, List.drop_succ_cons, List.take_succ_cons, List.take_zero] at h0 h1
    obtain ⟨K, eK, _, _⟩ := DataW.trod_int Try.underlying3 h0
    obtain ⟨z0, z1, m', -, -, g0, g1⟩ := trod_struct2 Try.underlying152 h1
    simp only [hs, hv, List.drop_zero, List.drop_succ_cons, List.take_succ_cons, List.take_zero] at g0 g1
    obtain ⟨S, eS, _, wS⟩ := DataW.trod_string Try.underlying9 g0
    obtain ⟨a, len, cap, L, e2, hlen, hm, hr, hsz⟩ := vals_in g1
    simp only [List.cons.injEq, and_true] at eK eS
    exact ⟨⟨K, S, a, cap, L⟩, by rw [eK, eS, e2, ← hlen]; rfl, hr, wS, by rw [hlen]; exact hm, hsz⟩

theorem items_in {H : Type} {enc : TypeId × Value → H} {w : World} {spare : Nat → Bool} {held : Bool} {n : Nat} {v : Value} {x : DataW H × List MemPlace}
    (h : DataW.trod enc Try.prog w 0 spare held n 38 [v] = some x) : ∃ a len cap J, v = .slice a len cap ∧ IsItems w a len cap J := by
  have hc : Try.prog.cellsOf 154 = 3 := by kernel_rfl
  rcases open_slice Try.underlying38 h with ⟨h0, _⟩ | ⟨a, len, cap, m, n', D, Pl, h0, hb, hl, hm, hmm, _, hx⟩
  · simp only [List.cons.injEq, and_true] at h0
    exact ⟨none, 0, 0, [], h0, rfl, Nat.zero_le _, RdI.nil _ _, fun v hv => absurd hv (Nat.not_lt_zero _)⟩
  · simp only [List.cons.injEq, and_true] at h0
    have hlm : len ≤ m := by rw [hmm]; split <;> omega
    obtain ⟨F, hF⟩ := choose_lt (α := It) (n := len) (p := fun i y => w.cells? 0 (a.add (i * 3)) 3 = some y.cells ∧ RdV w y.a y.L ∧ okI y) (fun i hi => by
      obtain ⟨cs', h1, h2⟩ := hx i (by omega)
      rw [hc] at h1
      obtain ⟨y, rfl, hr, ho⟩ := item_cells h2
      exact ⟨y, h1, hr, ho⟩)
    have hat : ∀ i, i < len → iAt ((List.range len).map F) i = F i := fun i hi => by rw [iAt_in (by simpa using hi)]; simp
    refine ⟨some a, len, cap, (List.range len).map F, h0, by simp, Nat.le_trans hl hm, fun i hi => ?_, fun i hi => ?_⟩
    · have hi2 : i < len := by simpa using hi
      obtain ⟨_, _, hcell⟩ := World.cells?_some (hF i hi2).1
      obtain ⟨b, off, spot⟩ := a
      have e0 := hcell 0 (by omega)
      have e1 := hcell 1 (by omega)
      have e2 := hcell 2 (by omega)
      rw [add_add] at e0 e1 e2
      have hs : spot = none := by
        obtain ⟨_, _, hcell0⟩ := World.cells?_some (hF 0 (by omega)).1
        have e := hcell0 0 (by omega)
        rw [add_add] at e
        simp only [It.cells, List.getElem?_cons_zero] at e
        simpa [Addr.add] using World.cell?_spot e
      subst hs
      rw [hat i hi2]
      simp only [Addr.add_lit] at e0 e1 e2
      refine ⟨b, off, rfl, ?_, ?_, ?_, (hF i hi2).2.1⟩
      · simpa [It.cells] using e0
      · simpa [It.cells, Nat.add_assoc] using e1
      · simpa [It.cells, Nat.add_assoc] using e2
    · have hi2 : i < len := by simpa using hi
      rw [hat i hi2]; exact (hF i hi2).2.2
end Go.Proofs.Ytfgigcdfmkfkjaa
/-
  The contracts of the laws' own helpers on facts: toFact copies, eqFact finds a fact the same as itself.
-/
namespace Go.Proofs.Ytfgigcdfmkfkjaa
open Go.RowKit
set_option linter.unusedVariables false

set_option maxRecDepth 100000 in
set_option maxHeartbeats 1600000 in
theorem toFact_any (kd : ByteArray) (a : Option Addr) (cap : Nat) (L : List V3) (w : World) (hr : RdV w a L) (hn : L.length ≤ 1048576) :
    Calls Try.prog 129 #[.agg #[.string kd, .slice a L.length cap]] w fun e w' =>
      ∃ g, e = .returned (.agg #[.string kd, .slice (some ⟨g, 0, none⟩) L.length L.length]) ∧ w.heap.size ≤ g ∧ OwnV w' g L.length L ∧ Below w.heap.size w w' := by
  go_enter Try.func129, Try.ntmps129
  go_wp2_with fail
  have b0 := below_al w (.cells #[.string kd, .slice a L.length cap] 152)
  have b1 := b0.alloc b0.size (.cells #[.string ⟨#[]⟩, .slice none 0 0] 89)
  have b2 := b1.alloc b1.size (.cells #[.string kd, .slice none 0 0] 89)
  have hR := box_old (box2_new (w.alloc (.cells #[.string kd, .slice a L.length cap] 152)) (.string ⟨#[]⟩) (.slice none 0 0) 89) (by simp) (.cells #[.string kd, .slice none 0 0] 89)
  have hX := box2_new ((w.alloc (.cells #[.string kd, .slice a L.length cap] 152)).alloc (.cells #[.string ⟨#[]⟩, .slice none 0 0] 89)) (.string kd) (.slice none 0 0) 89
  simp only [World.size_alloc] at hR hX
  refine (toValS_at a cap L _ (hr.below b2) hn).mono ?_
  rintro e w1 ⟨rfl, ho, hb⟩
  have HR := hide (box_below hR hb (by simp))
  have HX := hide (box_below hX hb (by simp))
  have hB : Below w.heap.size w w1 := b2.trans (hb.mono b2.size)
  have hO := OwnV.of ho
  clear ho hb hR hX b0 b1 b2
  simp only [World.size_alloc] at hO ⊢
  obtain ⟨x0, x1, xf0, xf1⟩ := box2_cell HX.out
  obtain ⟨r0, r1, rf0, rf1⟩ := box2_cell HR.out
  have HX2 := hide (box2_set1 HX.out (.slice (some ⟨w.heap.size + 1 + 1 + 1, 0, none⟩) L.length L.length))
  have HR2 := hide (box_gr HR.out HX2.out.2 (by omega))
  go_wp2
  refine box2_post HR2.out (fun w4 h4 gr => ?_)
  clear x0 x1 xf0 xf1 r0 r1 rf0 rf1
  obtain ⟨c0, c1, -, -⟩ := box2_cell h4
  have hz := hO.lt
  exact bodyPost_ret (v := .agg #[.string kd, .slice (some ⟨w.heap.size + 1 + 1 + 1, 0, none⟩) L.length L.length]) (by simp [results, Try.results129, go_sem, c0, c1]) rfl
    ⟨_, rfl, by omega, (hO.grown HX2.out.2 (by omega)).grown gr (by omega), below_set (hB.grown HX2.out.2 hB.size (fun k hk => by cases hk; omega)) gr (by omega)⟩

set_option maxRecDepth 100000 in
set_option maxHeartbeats 1600000 in
theorem eqFact_same (kd : ByteArray) (a b : Option Addr) (ca cb : Nat) (L : List V3) (w : World) (hr : RdV w a L) (hq : RdV w b L) (hn : L.length ≤ 1048580) :
    Calls Try.prog 138 #[.agg #[.string kd, .slice a L.length ca], .agg #[.string kd, .slice b L.length cb]] w fun e w' =>
      e = .returned (.bool true) ∧ Below w.heap.size w w' := by
  have k1 : (kd.toList == kd.toList) = true := by simp
  go_enter Try.func138, Try.ntmps138
  go_wp2_with fail
  have b0 := below_al w (.cells #[.string kd, .slice a L.length ca] 89)
  have b1 := b0.alloc b0.size (.cells #[.string kd, .slice b L.length cb] 89)
  refine (eqValS_same a b ca cb L _ (hr.below b1) (hq.below b1) hn).mono ?_
  rintro e w1 ⟨rfl, hb⟩
  have hB : Below w.heap.size w w1 := b1.trans (hb.mono b1.size)
  go_wp2
  go_ret
  exact ⟨rfl, hB⟩
end Go.Proofs.Ytfgigcdfmkfkjaa
/-
  The contracts of the laws' own helpers on items and stores: how great they are, their copies, and that one is the same as itself.
-/
namespace Go.Proofs.Ytfgigcdfmkfkjaa
open Go.RowKit
set_option linter.unusedVariables false

def szI (x : It) : Nat := x.kd.size + szL x.L
def szJ (J : List It) (k : Nat) : Nat := ((J.take k).map szI).sum
theorem szJ_step {J : List It} {k : Nat} (h : k < J.length) : szJ J (k + 1) = szJ J k + szI (iAt J k) := by
  unfold szJ; rw [List.take_succ_eq_append_getElem h, iAt_in h, List.map_append, List.sum_append]; simp only [List.map_cons, List.map_nil, List.sum_cons, List.sum_nil, Nat.add_zero]
def szSt (J : List It) : Nat := J.length + (J.map szI).sum
theorem szJ_end (J : List It) : szJ J J.length = (J.map szI).sum := by unfold szJ; rw [List.take_length]
theorem szSt_mem {J : List It} {i : Nat} (hi : i < J.length) : szI (iAt J i) + J.length ≤ szSt J := by
  unfold szSt
  have : szI (iAt J i) ≤ (J.map szI).sum := mem_sum (List.mem_map.2 ⟨_, by rw [iAt_in hi]; exact List.getElem_mem hi, rfl⟩)
  omega

set_option maxRecDepth 100000 in
set_option maxHeartbeats 1600000 in
theorem szItem_any (id : Int) (kd : ByteArray) (a : Option Addr) (cap : Nat) (L : List V3) (left : Int) (w : World) (hkd : kd.size ≤ maxLen) (hr : RdV w a L) (hs : ∀ v ∈ L, v.S.size ≤ maxLen) (hm : L.length ≤ maxLen) (h0 : 0 ≤ left) (h1 : left ≤ 1048576) :
    Calls Try.prog 91 #[.agg #[.int .i64 id, .string kd, .slice a L.length cap], .int .i64 left] w fun e w' =>
      (∃ r, e = .returned (.int .i64 r) ∧ (r = -1 ∨ (0 ≤ r ∧ r + ((kd.size + szL L : Nat) : Int) = left))) ∧ Below w.heap.size w w' := by
  have b0 := below_al w (.cells #[.int .i64 id, .string kd, .slice a L.length cap] 154)
  go_enter Try.func91, Try.ntmps91
  go_wp2_with fail
  refine (szFact_any kd a cap L left _ hkd (hr.below b0) hs hm h0 h1).mono ?_
  rintro e w1 ⟨⟨r, rfl, hr1⟩, hb1⟩
  have hB1 : Below w.heap.size w w1 := b0.trans (hb1.mono b0.size)
  clear hb1 b0
  rcases hr1 with rfl | ⟨hr2, hr3⟩
  · go_wp2
    go_ret
    exact ⟨⟨-1, rfl, .inl rfl⟩, hB1⟩
  · have HR := hide hr3
    have h2 : ¬ (r < 0) := by omega
    clear hr3
    go_wp2
    go_ret
    exact ⟨⟨r, rfl, .inr ⟨hr2, HR.out⟩⟩, hB1⟩

set_option maxRecDepth 100000 in
set_option maxHeartbeats 1600000 in
theorem szItemS_any (a : Option Addr) (cap : Nat) (J : List It) (left : Int) (w : World) (hr : RdI w a J) (hs : ∀ i, i < J.length → okI (iAt J i)) (hm : J.length ≤ maxLen) (h0 : 0 ≤ left) (h1 : left ≤ 1048576) :
    Calls Try.prog 52 #[.slice a J.length cap, .int .i64 left] w fun e w' =>
      (∃ r, e = .returned (.int .i64 r) ∧ (r = -1 ∨ (0 ≤ r ∧ r + (szSt J : Int) = left))) ∧ Below w.heap.size w w' := by
  unfold maxLen at hm
  obtain ⟨n, hN⟩ : ∃ n, n = J.length := ⟨_, rfl⟩
  rw [← hN] at hm ⊢
  have HN := hide hN
  have HS := hide hs
  clear hN hs
  by_cases h2 : left - (n : Int) < 0
  · go_enter Try.func52, Try.ntmps52
    go_wp2
    go_ret
    exact ⟨⟨-1, rfl, .inl rfl⟩, Below.refl _ _⟩
  · go_enter Try.func52, Try.ntmps52
    go_wp2
    go_loopw [1, 5] (fun l i wr => ∃ (k : Nat) (lf : Int), k ≤ n ∧ i = .int .i64 k ∧ l = .int .i64 lf ∧ 0 ≤ lf ∧ lf + (szJ J k : Int) = left - n ∧ Below w.heap.size w wr) (fun _ i _ => n - (intOf i).toNat)
    case atStart => exact ⟨0, left - n, Nat.zero_le _, rfl, rfl, by omega, by simp [szJ], Below.refl _ _⟩
    case round =>
      obtain ⟨k, lf, hk, rfl, rfl, hlf, hsum, hbel⟩ := hrel
      by_cases hlt : k < n
      · obtain ⟨b, off, hab, hbw, hc⟩ := hr.open (by rw [← HN.out]; omega)
        obtain ⟨c0, c1, c2, hv⟩ := hc k (by rw [← HN.out]; exact hlt)
        have HV := hide (hv.below (hbel.mono (Nat.le_refl _)))
        clear hc hv
        subst hab
        rw [← hbel.cell (p := ⟨b, off + k * 3, none⟩) hbw] at c0
        rw [← hbel.cell (p := ⟨b, off + k * 3 + 1, none⟩) hbw] at c1
        rw [← hbel.cell (p := ⟨b, off + k * 3 + 2, none⟩) hbw] at c2
        have HK := hide (HS.out k (by rw [← HN.out]; exact hlt))
        have hst := szJ_step (J := J) (k := k) (by rw [← HN.out]; exact hlt)
        unfold szI at hst
        generalize iAt J k = x at c0 c1 c2 HV HK hst
        obtain ⟨id, kd, va, vc, L⟩ := x
        simp only at c0 c1 c2 HV HK hst
        go_wp2_with fail
        refine (szItem_any id kd va vc L lf _ HK.out.1 HV.out HK.out.2.2 HK.out.2.1 hlf (by omega)).mono ?_
        rintro e w2 ⟨⟨r, rfl, hr1⟩, hb2⟩
        have hbel2 : Below w.heap.size w w2 := hbel.trans (hb2.mono hbel.size)
        clear hb2 c0 c1 c2 hbel
        rcases hr1 with rfl | ⟨hr2, hr3⟩
        · go_wp2
          go_ret
          exact ⟨⟨-1, rfl, .inl rfl⟩, hbel2⟩
        · have HR : Hid (r + (szJ J (k + 1) : Int) = left - n) := by unfold Hid; rw [hst]; omega
          have h3 : ¬ (r < 0) := by omega
          clear hr3 hst hsum
          go_wp2
          go_roundw
          case rel => exact ⟨k + 1, r, by omega, by go_num, rfl, hr2, HR.out, hbel2⟩
          case measure => simp [intOf]; omega
      · have HK : Hid (lf + (szSt J : Int) = left) := by
          unfold Hid szSt
          have := szJ_end J
          have hkn : k = J.length := by rw [← HN.out]; omega
          rw [hkn] at hsum
          have := HN.out
          omega
        clear hsum
        go_wp2
        go_ret
        exact ⟨⟨lf, rfl, .inr ⟨hlf, HK.out⟩⟩, hbel⟩

set_option maxRecDepth 100000 in
set_option maxHeartbeats 1600000 in
theorem szStore_any (a : Option Addr) (cap : Nat) (J : List It) (nx : Int) (left : Int) (w : World) (hr : RdI w a J) (hs : ∀ i, i < J.length → okI (iAt J i)) (hm : J.length ≤ maxLen) (h0 : 0 ≤ left) (h1 : left ≤ 1048576) :
    Calls Try.prog 17 #[.agg #[.slice a J.length cap, .int .i64 nx], .int .i64 left] w fun e w' =>
      (∃ r, e = .returned (.int .i64 r) ∧ (r = -1 ∨ (0 ≤ r ∧ r + (szSt J : Int) = left))) ∧ Below w.heap.size w w' := by
  have b0 := below_al w (.cells #[.slice a J.length cap, .int .i64 nx] 40)
  go_enter Try.func17, Try.ntmps17
  go_wp2_with fail
  refine (szItemS_any a cap J left _ (hr.below b0) hs hm h0 h1).mono ?_
  rintro e w1 ⟨⟨r, rfl, hr1⟩, hb1⟩
  have hB1 : Below w.heap.size w w1 := b0.trans (hb1.mono b0.size)
  clear hb1 b0
  rcases hr1 with rfl | ⟨hr2, hr3⟩
  · go_wp2
    go_ret
    exact ⟨⟨-1, rfl, .inl rfl⟩, hB1⟩
  · have HR := hide hr3
    have h2 : ¬ (r < 0) := by omega
    clear hr3
    go_wp2
    go_ret
    exact ⟨⟨r, rfl, .inr ⟨hr2, HR.out⟩⟩, hB1⟩

end Go.Proofs.Ytfgigcdfmkfkjaa
/-
  The contracts of the laws' own copies of items and stores: what is copied lies in blocks of its own, no two lists in one.
-/
namespace Go.Proofs.Ytfgigcdfmkfkjaa
open Go.RowKit
set_option linter.unusedVariables false

theorem box_set12 {w : World} {q : Nat} {c0 c1 c2 : Value} {T : TypeId} (h : w.heap[q]? = some (.cells #[c0, c1, c2] T (0, 0))) (b c : Value) :
    ((w.setCell ⟨q, 1, none⟩ b).setCell ⟨q, 2, none⟩ c).heap[q]? = some (.cells #[c0, b, c] T (0, 0)) ∧ w.grownBy ((w.setCell ⟨q, 1, none⟩ b).setCell ⟨q, 2, none⟩ c) (some q) := by
  have h2 : (w.setCell ⟨q, 1, none⟩ b).heap[q]? = some (.cells #[c0, b, c2] T (0, 0)) := by rw [heap_setCell_same w q 1 _ T b h]; rfl
  refine ⟨by rw [heap_setCell_same _ q 2 _ T c h2]; rfl, ⟨rfl, rfl, rfl, by simp [World.setCell], fun k _ hk => ?_⟩⟩
  rw [heap_setCell_other _ ⟨q, 2, none⟩ k c (fun e => hk (by simp [e])), heap_setCell_other w ⟨q, 1, none⟩ k b (fun e => hk (by simp [e]))]

set_option maxRecDepth 100000 in
set_option maxHeartbeats 1600000 in
theorem toItem_any (id : Int) (kd : ByteArray) (a : Option Addr) (cap : Nat) (L : List V3) (w : World) (hr : RdV w a L) (hn : L.length ≤ 1048576) :
    Calls Try.prog 97 #[.agg #[.int .i64 id, .string kd, .slice a L.length cap]] w fun e w' =>
      ∃ g, e = .returned (.agg #[.int .i64 id, .string kd, .slice (some ⟨g, 0, none⟩) L.length L.length]) ∧ w.heap.size ≤ g ∧ OwnV w' g L.length L ∧ Below w.heap.size w w' := by
  go_enter Try.func97, Try.ntmps97
  go_wp2_with fail
  have b0 := below_al w (.cells #[.int .i64 id, .string kd, .slice a L.length cap] 154)
  have b1 := b0.alloc b0.size (.cells #[.int .i64 0, .string ⟨#[]⟩, .slice none 0 0] 122)
  have b2 := b1.alloc b1.size (.cells #[.int .i64 id, .string ⟨#[]⟩, .slice none 0 0] 122)
  have hR := box_old (box_new (w.alloc (.cells #[.int .i64 id, .string kd, .slice a L.length cap] 154)) (.int .i64 0) (.string ⟨#[]⟩) (.slice none 0 0) 122) (by simp) (.cells #[.int .i64 id, .string ⟨#[]⟩, .slice none 0 0] 122)
  have hX := box_new ((w.alloc (.cells #[.int .i64 id, .string kd, .slice a L.length cap] 154)).alloc (.cells #[.int .i64 0, .string ⟨#[]⟩, .slice none 0 0] 122)) (.int .i64 id) (.string ⟨#[]⟩) (.slice none 0 0) 122
  simp only [World.size_alloc] at hR hX
  refine (toFact_any kd a cap L _ (hr.below b2) hn).mono ?_
  rintro e w1 ⟨g, rfl, hg, hO, hb⟩
  have HR := hide (box_below hR hb (by simp))
  have HX := hide (box_below hX hb (by simp))
  have hB : Below w.heap.size w w1 := b2.trans (hb.mono b2.size)
  clear hb hR hX b0 b1 b2
  simp only [World.size_alloc] at hg
  obtain ⟨x0, x1, x2, xf0, xf1, xf2⟩ := box_cell HX.out
  obtain ⟨r0, r1, r2, rf0, rf1, rf2⟩ := box_cell HR.out
  have HX2 := hide (box_set12 HX.out (.string kd) (.slice (some ⟨g, 0, none⟩) L.length L.length))
  have HR2 := hide (box_gr HR.out HX2.out.2 (by omega))
  go_wp2
  refine box_post HR2.out (fun w4 h4 gr => ?_)
  clear x0 x1 x2 xf0 xf1 xf2 r0 r1 r2 rf0 rf1 rf2
  obtain ⟨c0, c1, c2, -, -, -⟩ := box_cell h4
  have hz := hO.lt
  exact bodyPost_ret (v := .agg #[.int .i64 id, .string kd, .slice (some ⟨g, 0, none⟩) L.length L.length]) (by simp [results, Try.results97, go_sem, c0, c1, c2]) rfl
    ⟨_, rfl, by omega, (hO.grown HX2.out.2 (by omega)).grown gr (by omega), below_set (hB.grown HX2.out.2 hB.size (fun k hk => by cases hk; omega)) gr (by omega)⟩

/-- a list of values in memory, or none -/
def LieV (a : Option Addr) (n cap : Nat) : Prop := (a = none ∧ n = 0 ∧ cap = 0) ∨ ∃ b off, a = some ⟨b, off, none⟩ ∧ n ≤ cap ∧ cap ≤ maxLen
theorem OwnV.lies {w : World} {g cap : Nat} {L : List V3} (h : OwnV w g cap L) : LieV (some ⟨g, 0, none⟩) L.length cap := by
  refine .inr ⟨g, 0, rfl, h.cap, ?_⟩
  rcases h.2 with ⟨h1, _⟩ | ⟨g', cap', cur, h1, hb', hh, hnc, hcm, _⟩
  · simp at h1
  · simp only [Value.slice.injEq] at h1
    omega
theorem LieV.nil : LieV none 0 0 := .inl ⟨rfl, rfl, rfl⟩
/-- block g holds the items K, at its head; the values of each item that has any lie in a block of their own -/
structure HoldsI (w : World) (lo g cp : Nat) (K : List It) : Prop where
  own : w.ownsRow 0 122 3 (.slice (some ⟨g, 0, none⟩) K.length cp) K.length (rowOf It.cells K)
  low : lo ≤ g
  vals : ∀ i, i < K.length → (iAt K i).L ≠ [] → ∃ q, (iAt K i).a = some ⟨q, 0, none⟩ ∧ lo ≤ q ∧ q ≠ g ∧ OwnV w q (iAt K i).cap (iAt K i).L
  apart : ∀ i j, i < j → j < K.length → (iAt K i).L ≠ [] → (iAt K j).L ≠ [] → (iAt K i).a ≠ (iAt K j).a
  lies : ∀ i, i < K.length → LieV (iAt K i).a (iAt K i).L.length (iAt K i).cap
theorem HoldsI.rd {w : World} {lo g cp : Nat} {K : List It} (h : HoldsI w lo g cp K) : RdI w (some ⟨g, 0, none⟩) K :=
  (rdI_owns h.own (fun i hi => by
    by_cases e : (iAt K i).L = []
    · rw [e]; exact RdV.nil _ _
    · obtain ⟨q, e, -, -, o⟩ := h.vals i hi e; rw [e]; exact o.rd)).1
theorem HoldsI.later {w w' : World} {lo g cp : Nat} {K : List It} (h : HoldsI w lo g cp K) (hb : Below w.heap.size w w') : HoldsI w' lo g cp K :=
  ⟨ownsRow_below h.own hb, h.low, fun i hi hne => by obtain ⟨q, e, h1, h2, o⟩ := h.vals i hi hne; exact ⟨q, e, h1, h2, o.later hb⟩, h.apart, h.lies⟩
theorem HoldsI.lt {w : World} {lo g cp : Nat} {K : List It} (h : HoldsI w lo g cp K) : g < w.heap.size := (World.ownsRow.lt h.own g rfl).2
theorem HoldsI.grown {w w' : World} {lo g cp q : Nat} {K : List It} (h : HoldsI w lo g cp K) (hg : w.grownBy w' (some q)) (hlo : q < lo) : HoldsI w' lo g cp K := by
  refine ⟨World.ownsRow.kept h.own hg (.inr ?_), h.low, fun i hi hne => ?_, h.apart, h.lies⟩
  · have := h.low
    simp [Value.ownBlock]; omega
  · obtain ⟨p, e, h1, h2, o⟩ := h.vals i hi hne
    exact ⟨p, e, h1, h2, o.grown hg (by omega)⟩
theorem HoldsI.weaken {w : World} {lo lo' g cp : Nat} {K : List It} (h : HoldsI w lo g cp K) (hl : lo' ≤ lo) : HoldsI w lo' g cp K :=
  ⟨h.own, Nat.le_trans hl h.low, fun i hi hne => by obtain ⟨p, e, h1, h2, o⟩ := h.vals i hi hne; exact ⟨p, e, Nat.le_trans hl h1, h2, o⟩, h.apart, h.lies⟩
theorem grown_tr {a b c : World} {row : Option Nat} (h : a.grownBy b row) (k : b.grownBy c row) : a.grownBy c row :=
  ⟨k.os.trans h.os, k.tape.trans h.tape, k.output.trans h.output, Nat.le_trans h.size k.size, fun i hi hne => (k.block i (Nat.lt_of_lt_of_le hi h.size) hne).trans (h.block i hi hne)⟩

/-- the first k items are copied -/
def Copied (w : World) (lo g : Nat) (J K : List It) (k : Nat) : Prop :=
  (∀ i, i < k → (iAt K i).pl = (iAt J i).pl ∧ ((iAt K i).L ≠ [] → ∃ q, (iAt K i).a = some ⟨q, 0, none⟩ ∧ lo ≤ q ∧ q ≠ g ∧ OwnV w q (iAt K i).cap (iAt K i).L) ∧ LieV (iAt K i).a (iAt K i).L.length (iAt K i).cap) ∧ ∀ i j, i < j → j < k → (iAt K i).L ≠ [] → (iAt K j).L ≠ [] → (iAt K i).a ≠ (iAt K j).a
theorem Copied.zero (w : World) (lo g : Nat) (J K : List It) : Copied w lo g J K 0 := ⟨fun i hi => absurd hi (Nat.not_lt_zero _), fun i j _ hj => absurd hj (Nat.not_lt_zero _)⟩
/-- one item more: its values are none, or lie in a block that is new -/
theorem Copied.more {w w1 w2 : World} {lo g : Nat} {J K K' : List It} {k : Nat} {x : It} (h : Copied w lo g J K k) (hb : Below w.heap.size w w1) (hg : w1.grownBy w2 (some g)) (hsame : ∀ i, i < k → iAt K' i = iAt K i) (hnew : iAt K' k = x) (hx : x.pl = (iAt J k).pl)
    (hq : x.L ≠ [] → ∃ q, x.a = some ⟨q, 0, none⟩ ∧ w.heap.size ≤ q ∧ OwnV w1 q x.cap x.L) (hli : LieV x.a x.L.length x.cap) (hlo : lo ≤ w.heap.size) (hgl : g < w.heap.size) : Copied w2 lo g J K' (k + 1) := by
  refine ⟨fun i hi => ?_, fun i j hij hj => ?_⟩
  · by_cases e : i = k
    · rw [e, hnew]
      exact ⟨hx, fun hne => by obtain ⟨q, h1, h2, o⟩ := hq hne; exact ⟨q, h1, by omega, by omega, o.grown hg (by omega)⟩, hli⟩
    · rw [hsame i (by omega)]
      obtain ⟨h2, h3, h4⟩ := h.1 i (by omega)
      exact ⟨h2, fun hne => by obtain ⟨p, h5, h6, h7, h8⟩ := h3 hne; exact ⟨p, h5, h6, h7, (h8.later hb).grown hg h7⟩, h4⟩
  · rw [hsame i (by omega)]
    intro hne
    by_cases e : j = k
    · rw [e, hnew]
      intro hne2
      obtain ⟨q, h1, h2, -⟩ := hq hne2
      obtain ⟨p, h3, -, -, h6⟩ := (h.1 i (by omega)).2.1 hne
      rw [h3, h1]
      have := h6.lt
      intro he
      simp only [Option.some.injEq, Addr.mk.injEq, and_true] at he
      omega
    · rw [hsame j (by omega)]
      exact h.2 i j hij (by omega) hne
theorem Copied.step {w w1 w2 : World} {lo g : Nat} {J K : List It} {k q : Nat} {x : It} (h : Copied w lo g J K k) (hb : Below w.heap.size w w1) (hg : w1.grownBy w2 (some g)) (hk : k < K.length) (hx : x.pl = (iAt J k).pl)
    (hq : x.a = some ⟨q, 0, none⟩) (h1 : w.heap.size ≤ q) (hlo : lo ≤ w.heap.size) (hgl : g < w.heap.size) (o : OwnV w1 q x.cap x.L) : Copied w2 lo g J (K.set k x) (k + 1) :=
  h.more hb hg (fun i hi => by rw [iAt_set hk, if_neg (by omega)]) (by rw [iAt_set hk, if_pos rfl]) hx (fun _ => ⟨q, hq, h1, o⟩) (by rw [hq]; exact o.lies) hlo hgl
theorem Copied.done {w : World} {lo g cp : Nat} {J K : List It} (h : Copied w lo g J K K.length) (hl : K.length = J.length) (hlo : lo ≤ g) (o : w.ownsRow lo 122 3 (.slice (some ⟨g, 0, none⟩) K.length cp) K.length (rowOf It.cells K)) : HoldsI w lo g cp K ∧ K.map It.pl = J.map It.pl := by
  refine ⟨⟨?_, hlo, fun i hi => (h.1 i hi).2.1, h.2, fun i hi => (h.1 i hi).2.2⟩, pl_ext hl (fun i hi => (h.1 i hi).1)⟩
  refine ⟨o.1, ?_⟩
  rcases o.2 with h2 | ⟨g, cap, cur, h1, hb, rest⟩
  · exact .inl h2
  · exact .inr ⟨g, cap, cur, h1, Nat.zero_le _, rest⟩

theorem Try.info122 : (Try.prog.info? 122).map (fun i => (i.zero, i.size, i.bytes)) = some (some (.agg #[.int .i64 0, .string ⟨#[]⟩, .slice none 0 0]), 3, 48) := by kernel_rfl
theorem It.zero_cells : It.cells ⟨0, ⟨#[]⟩, none, 0, []⟩ = [.int .i64 0, .string ⟨#[]⟩, .slice none 0 0] := rfl

set_option maxRecDepth 100000 in
set_option maxHeartbeats 3200000 in
theorem toItemS_any (a : Option Addr) (cap : Nat) (J : List It) (w : World) (hr : RdI w a J) (hn : J.length ≤ 1048576) (hl : ∀ i, i < J.length → (iAt J i).L.length ≤ 1048576) :
    Calls Try.prog 58 #[.slice a J.length cap] w fun e w' =>
      ∃ K g, e = .returned (.slice (some ⟨g, 0, none⟩) J.length J.length) ∧ HoldsI w' w.heap.size g J.length K ∧ K.map It.pl = J.map It.pl ∧ Below w.heap.size w w' := by
  obtain ⟨i0, hi, hz0, hz1, hz2⟩ := info_parts Try.info122
  obtain ⟨n, hN⟩ : ∃ n, n = J.length := ⟨_, rfl⟩
  rw [← hN] at hn ⊢
  have HN := hide hN
  have HL := hide hl
  clear hN hl
  go_enter Try.func58, Try.ntmps58
  go_wp2_with (at_make; refine wpList_make_full _ rfl _ _ 51 rfl w.heap.size 122 i0 (.agg #[.int .i64 0, .string ⟨#[]⟩, .slice none 0 0]) 3 Try.underlying51 hi hz0 hz1 _ _ _ _ n rfl rfl (by omega) (by omega) ?b2 ?b3 (Nat.le_refl _) ?_)
  case b2 => rw [hz2]; omega
  case b3 => unfold maxLen; omega
  intro w0 hown0 hgrow0
  rw [rowOf_replicate It.zero_cells] at hown0
  have hs0 : w.heap.size < w0.heap.size := (hown0.lt w.heap.size rfl).2
  have hb0 : Below w.heap.size w w0 := (Below.refl _ _).grown hgrow0 (Nat.le_refl _) (fun k h => by cases h)
  go_wp2
  go_loopw [4] (fun i wr => ∃ (k : Nat) (K : List It), k ≤ n ∧ i = .int .i64 k ∧ K.length = n ∧ wr.ownsRow w.heap.size 122 3 (.slice (some ⟨w.heap.size, 0, none⟩) n n) n (rowOf It.cells K) ∧ Copied wr w.heap.size w.heap.size J K k ∧ Below w.heap.size w wr ∧ w.heap.size < wr.heap.size)
    (fun i _ => n - (intOf i).toNat)
  case atStart => exact ⟨0, List.replicate n ⟨0, ⟨#[]⟩, none, 0, []⟩, Nat.zero_le _, rfl, by simp, hown0, Copied.zero _ _ _ _ _, hb0, hs0⟩
  case round =>
    clear hown0 hgrow0 hb0 hs0
    obtain ⟨k, K, hk, rfl, hKn, hown, hcop, hbel, hsz⟩ := hrel
    have HKn := hide hKn
    have HCop := hide hcop
    clear hKn hcop
    by_cases hlt : k < n
    · obtain ⟨b, off, hab, hbw, hc⟩ := hr.open (by rw [← HN.out]; omega)
      obtain ⟨c0, c1, c2, hv⟩ := hc k (by rw [← HN.out]; exact hlt)
      have HV := hide (hv.below hbel)
      clear hc hv
      subst hab
      rw [← hbel.cell (p := ⟨b, off + k * 3, none⟩) hbw] at c0
      rw [← hbel.cell (p := ⟨b, off + k * 3 + 1, none⟩) hbw] at c1
      rw [← hbel.cell (p := ⟨b, off + k * 3 + 2, none⟩) hbw] at c2
      have HK := hide (HL.out k (by rw [← HN.out]; exact hlt))
      obtain ⟨x, hx⟩ : ∃ x, x = iAt J k := ⟨_, rfl⟩
      rw [← hx] at c0 c1 c2 HV HK
      have HX := hide hx
      clear hx
      obtain ⟨id, kd, va, vc, L⟩ := x
      simp only at c0 c1 c2 HV HK
      go_wp2_with fail
      refine (toItem_any id kd va vc L _ HV.out HK.out).mono ?_
      rintro e w2 ⟨g, rfl, hg, o, hb2⟩
      have hown2 : w2.ownsRow w.heap.size 122 3 (.slice (some ⟨w.heap.size, 0, none⟩) n n) n (rowOf It.cells K) := ownsRow_below hown hb2
      have hbel2 : Below w.heap.size w w2 := hbel.trans (hb2.mono hbel.size)
      have hlen : (rowOf It.cells K).length = n * 3 := by rw [rowOf_length It.cells_length, HKn.out]
      have hmem : ∀ j, j < 3 → ∃ u, w2.cell? ⟨w.heap.size, k * 3 + j, none⟩ = some u := fun j hj => by
        rw [hown2.cellAt (k * 3 + j) (by omega), List.getElem?_eq_getElem (by omega)]
        exact ⟨_, rfl⟩
      obtain ⟨u0, m0⟩ := hmem 0 (by omega)
      obtain ⟨u1, m1⟩ := hmem 1 (by omega)
      obtain ⟨u2, m2⟩ := hmem 2 (by omega)
      rw [Nat.add_zero] at m0
      have f0 := hown2.frozenAt (k * 3)
      have f1 := hown2.frozenAt (k * 3 + 1)
      have f2 := hown2.frozenAt (k * 3 + 2)
      have s1 := hown2.stored (k * 3) (.int .i64 id)
      have s2 := s1.1.stored (k * 3 + 1) (.string kd)
      have s3 := s2.1.stored (k * 3 + 2) (.slice (some ⟨g, 0, none⟩) L.length L.length)
      have HO := hide s3.1
      have hset := rowOf_set3 It.cells_length ⟨id, kd, some ⟨g, 0, none⟩, L.length, L⟩ (.int .i64 id) (.string kd) (.slice (some ⟨g, 0, none⟩) L.length L.length) rfl K k (by rw [HKn.out]; exact hlt)
      rw [hset] at HO
      have HC := hide (HCop.out.step (x := ⟨id, kd, some ⟨g, 0, none⟩, L.length, L⟩) hb2 (grown_tr (grown_tr s1.2 s2.2) s3.2) (by rw [HKn.out]; exact hlt) (by rw [← HX.out]; rfl) rfl hg (Nat.le_of_lt hsz) hsz o)
      have HB : Hid (Below w.heap.size w (((w2.setCell ⟨w.heap.size, k * 3, none⟩ (.int .i64 id)).setCell ⟨w.heap.size, k * 3 + 1, none⟩ (.string kd)).setCell ⟨w.heap.size, k * 3 + 2, none⟩ (.slice (some ⟨g, 0, none⟩) L.length L.length))) := ((hbel2.setCell (Nat.le_refl _) _).setCell (Nat.le_refl _) _).setCell (Nat.le_refl _) _
      have HZ : Hid (w.heap.size < (((w2.setCell ⟨w.heap.size, k * 3, none⟩ (.int .i64 id)).setCell ⟨w.heap.size, k * 3 + 1, none⟩ (.string kd)).setCell ⟨w.heap.size, k * 3 + 2, none⟩ (.slice (some ⟨g, 0, none⟩) L.length L.length)).heap.size) := by
        have h1 := hb2.size
        have h2 := (grown_tr (grown_tr s1.2 s2.2) s3.2).size
        exact Nat.lt_of_lt_of_le (Nat.lt_of_lt_of_le hsz h1) h2
      have HLen : Hid ((K.set k ⟨id, kd, some ⟨g, 0, none⟩, L.length, L⟩).length = n) := by unfold Hid; rw [List.length_set, HKn.out]
      clear hmem hlen c0 c1 c2 hown hbel hb2 s1 s2 s3 hset hown2 hbel2 o HV HK HCop
      go_wp2
      go_roundw
      case rel => exact ⟨k + 1, _, by omega, by go_num, HLen.out, HO.out, HC.out, HB.out, HZ.out⟩
      case measure => simp [intOf]; omega
    · have hkn : k = K.length := by rw [HKn.out]; omega
      have HR : Hid (HoldsI wr w.heap.size w.heap.size n K ∧ K.map It.pl = J.map It.pl) := by
        refine Copied.done (hkn ▸ HCop.out) (by rw [HKn.out, HN.out]) (Nat.le_refl _) ?_
        rw [HKn.out]; exact hown
      clear hkn hown
      go_wp2
      go_ret
      exact ⟨K, _, rfl, HR.out.1, HR.out.2, hbel⟩

set_option maxRecDepth 100000 in
set_option maxHeartbeats 1600000 in
theorem toStore_any (a : Option Addr) (cap : Nat) (J : List It) (nx : Int) (w : World) (hr : RdI w a J) (hn : J.length ≤ 1048576) (hl : ∀ i, i < J.length → (iAt J i).L.length ≤ 1048576) :
    Calls Try.prog 20 #[.agg #[.slice a J.length cap, .int .i64 nx]] w fun e w' =>
      ∃ K g, e = .returned (.agg #[.slice (some ⟨g, 0, none⟩) J.length J.length, .int .i64 nx]) ∧ HoldsI w' w.heap.size g J.length K ∧ K.map It.pl = J.map It.pl ∧ Below w.heap.size w w' := by
  go_enter Try.func20, Try.ntmps20
  go_wp2_with fail
  have b0 := below_al w (.cells #[.slice a J.length cap, .int .i64 nx] 40)
  have b1 := b0.alloc b0.size (.cells #[.slice none 0 0, .int .i64 0] 53)
  have b2 := b1.alloc b1.size (.cells #[.slice none 0 0, .int .i64 0] 53)
  have hA := box_old (box_old (box2_new w (.slice a J.length cap) (.int .i64 nx) 40) (by simp) (.cells #[.slice none 0 0, .int .i64 0] 53)) (by simp; omega) (.cells #[.slice none 0 0, .int .i64 0] 53)
  have hR := box_old (box2_new (w.alloc (.cells #[.slice a J.length cap, .int .i64 nx] 40)) (.slice none 0 0) (.int .i64 0) 53) (by simp) (.cells #[.slice none 0 0, .int .i64 0] 53)
  have hX := box2_new ((w.alloc (.cells #[.slice a J.length cap, .int .i64 nx] 40)).alloc (.cells #[.slice none 0 0, .int .i64 0] 53)) (.slice none 0 0) (.int .i64 0) 53
  simp only [World.size_alloc] at hA hR hX
  refine (toItemS_any a cap J _ (hr.below b2) hn hl).mono ?_
  rintro e w1 ⟨K, g, rfl, hH, hpl, hb⟩
  have HA := hide (box_below hA hb (by simp; omega))
  have HR := hide (box_below hR hb (by simp))
  have HX := hide (box_below hX hb (by simp))
  have hB : Below w.heap.size w w1 := b2.trans (hb.mono b2.size)
  have hz : w.heap.size + 1 + 1 + 1 ≤ g := by have := hH.low; simp only [World.size_alloc] at this; exact this
  have HP := hide hpl
  have HH := hide hH
  clear hb hA hR hX b0 b1 b2 hpl hH
  obtain ⟨x0, x1, xf0, xf1⟩ := box2_cell HX.out
  obtain ⟨r0, r1, rf0, rf1⟩ := box2_cell HR.out
  obtain ⟨a0, a1, -, -⟩ := box2_cell HA.out
  have HX2 := hide (box2_set HX.out (.slice (some ⟨g, 0, none⟩) J.length J.length) (.int .i64 nx))
  have HR2 := hide (box_gr HR.out HX2.out.2 (by omega))
  go_wp2
  refine box2_post HR2.out (fun w4 h4 gr => ?_)
  clear x0 x1 xf0 xf1 r0 r1 rf0 rf1 a0 a1
  obtain ⟨c0, c1, -, -⟩ := box2_cell h4
  refine bodyPost_ret (v := .agg #[.slice (some ⟨g, 0, none⟩) J.length J.length, .int .i64 nx]) (by simp [results, Try.results20, go_sem, c0, c1]) rfl
    ⟨K, g, rfl, ?_, HP.out, below_set (hB.grown HX2.out.2 hB.size (fun k hk => by cases hk; omega)) gr (by omega)⟩
  have h1 := HH.out.grown HX2.out.2 (by simp)
  have h2 := h1.grown gr (by simp)
  exact h2.weaken (by simp; omega)
end Go.Proofs.Ytfgigcdfmkfkjaa
/-
  Copies of a fact: the model's and the tested one: the same values, in a row of the call's own.
-/
namespace Go.Proofs.Ytfgigcdfmkfkjaa
open Go.RowKit
set_option linter.unusedVariables false

theorem src_zero {P : Program} {w : World} {size : Nat} {t e : TypeId} (hk : P.underlying t = some (.slice e)) (ad : Option Addr) (c : Nat) : Src P size t (.slice ad 0 c) 0 [] w := by
  cases ad with
  | none => exact Src.ofNil w hk c
  | some a => exact Src.ofSlice w hk a 0 c [] (by simp) (fun j u h => by simp at h) (fun _ h => by cases h)
theorem wpList_append_zero {P : Program} {w : World} {ops : Array Oper} {rest : List Oper} {o : Oper} {a : Act} {Q : Exit → Act → World → Prop} (hgd : o.guard = none) (s x : Operand) (t : TypeId)
    (ho : o.op = .call { callee := .builtin .append, args := #[s, x], argTypes := #[t, t] }) (e : TypeId) (i : TypeInfo) (ht : P.underlying t = some (.slice e)) (hi : P.info? e = some i)
    (b : Option Addr) (n cap : Nat) (hs : a.eval s = .slice b n cap) (hle : n ≤ cap) (ad : Option Addr) (c : Nat) (hx : a.eval x = .slice ad 0 c)
    (h : wpList P ops Q rest (a.put o.dst (.slice b n cap)) w) : wpList P ops Q (o :: rest) a w := by
  refine wpList_plain hgd fun K hK => ?_
  have hrun := run_append_nothing w t t o.type e i ht hi b n cap hle (.slice ad 0 c) (src_zero ht ad c)
  unfold Oper.wp
  simp [execOp, ho, resolve, invoke, builtin, hs, hx, hrun, Result.andThen]
  exact hK _ _ h
theorem rdV_src {w : World} {b off : Nat} {L : List V3} (h : RdV w (some ⟨b, off, none⟩) L) : ∀ j u, (cells3 L)[j]? = some u → w.cell? ((⟨b, off, none⟩ : Addr).add j) = some u := by
  intro j u hj
  have hl : j < L.length * 3 := by rw [← cells3_length]; exact (List.getElem?_eq_some_iff.1 hj).1
  obtain ⟨i, r, rfl, hr⟩ : ∃ i r, j = i * 3 + r ∧ r < 3 := ⟨j / 3, j % 3, by omega, by omega⟩
  have hi : i < L.length := by omega
  obtain ⟨b', off', e, h0, h1, h2⟩ := h i hi
  simp only [Option.some.injEq, Addr.mk.injEq, and_true] at e
  obtain ⟨rfl, rfl⟩ := e
  obtain ⟨g0, g1, g2⟩ := cells3_get L i hi
  rw [Addr.add_lit]
  match r, hr with
  | 0, _ => rw [Nat.add_zero, g0] at hj; rw [Nat.add_zero, h0]; exact hj
  | 1, _ => rw [g1] at hj; rw [← Nat.add_assoc, h1]; exact hj
  | 2, _ => rw [g2] at hj; rw [← Nat.add_assoc, h2]; exact hj
theorem cells3_one (L : List V3) : ∀ u ∈ cells3 L, u.oneCell' = true := by
  intro u hu
  unfold cells3 at hu
  obtain ⟨v, -, hv⟩ := List.mem_flatMap.1 hu
  simp only [List.mem_cons, List.not_mem_nil, or_false] at hv
  rcases hv with rfl | rfl | rfl <;> rfl
/-- a row of these values, of the call's own -/
def NewV (w : World) (base : Nat) (a : Option Addr) (c : Nat) (L : List V3) : Prop := w.ownsRow base 105 3 (.slice a L.length c) L.length (cells3 L) ∧ LieV a L.length c
theorem NewV.rd {w : World} {base c : Nat} {a : Option Addr} {L : List V3} (h : NewV w base a c L) : RdV w a L := by
  obtain ⟨a', c', e, hr, _⟩ := rdV_owns h.1
  simp only [Value.slice.injEq] at e
  rw [e.1]; exact hr
theorem NewV.of {w : World} {base c g : Nat} {L : List V3} (h : w.ownsRow base 105 3 (.slice (some ⟨g, 0, none⟩) L.length c) L.length (cells3 L)) : NewV w base (some ⟨g, 0, none⟩) c L := ⟨h, (OwnV.of h).lies⟩
theorem NewV.later {w w' : World} {base c : Nat} {a : Option Addr} {L : List V3} (h : NewV w base a c L) (hb : Below w.heap.size w w') : NewV w' base a c L := ⟨ownsRow_below h.1 hb, h.2⟩
theorem NewV.low {w : World} {base base' c : Nat} {a : Option Addr} {L : List V3} (h : NewV w base a c L) (hb : base' ≤ base) : NewV w base' a c L := by
  refine ⟨⟨h.1.1, ?_⟩, h.2⟩
  rcases h.1.2 with h2 | ⟨g, cap, cur, h1, hb', rest⟩
  · exact .inl h2
  · exact .inr ⟨g, cap, cur, h1, by omega, rest⟩
theorem NewV.grown {w w' : World} {base c q : Nat} {a : Option Addr} {L : List V3} (h : NewV w base a c L) (hg : w.grownBy w' (some q)) (hq : q < base) : NewV w' base a c L := by
  refine ⟨World.ownsRow.kept h.1 hg (.inr (fun e => ?_)), h.2⟩
  have := (h.1.lt q e).1
  omega
theorem NewV.own {w : World} {base c : Nat} {a : Option Addr} {L : List V3} (h : NewV w base a c L) (hne : L ≠ []) : ∃ g, a = some ⟨g, 0, none⟩ ∧ base ≤ g ∧ OwnV w g c L := by
  rcases h.1.2 with ⟨h1, h0⟩ | ⟨g, cap, cur, h1, hb, rest⟩
  · exact absurd (List.eq_nil_of_length_eq_zero h0) hne
  · simp only [Value.slice.injEq] at h1
    obtain ⟨rfl, -, rfl⟩ := h1
    exact ⟨g, rfl, hb, OwnV.of h.1⟩
theorem NewV.nil (w : World) (base : Nat) : NewV w base none 0 [] := ⟨World.ownsRow_nil _ _ _ _, LieV.nil⟩
theorem empty_new (w : World) (base : Nat) (hb : base ≤ w.heap.size) : (w.alloc (.cells #[] 105)).ownsRow base 105 3 (.slice (some ⟨w.heap.size, 0, none⟩) 0 0) ([] : List V3).length (cells3 []) := World.ownsRow_lit w #[] 0 hb (Nat.zero_le _) rfl

set_option maxRecDepth 100000 in
set_option maxHeartbeats 1600000 in
theorem clone_any (a : Option Addr) (cap : Nat) (L : List V3) (w : World) (hr : RdV w a L) (hl : LieV a L.length cap) (hn : L.length ≤ 1048580) :
    Calls Try.prog 130 #[.slice a L.length cap] w fun e w' => ∃ a' c', e = .returned (.slice a' L.length c') ∧ NewV w' w.heap.size a' c' L ∧ Below w.heap.size w w' := by
  obtain ⟨i0, hi, hz0, hz1, hz2⟩ := info_parts Try.info105
  have HL := hide hl
  clear hl
  cases a with
  | none =>
    have hL : L = [] := by
      rcases HL.out with ⟨-, h0, -⟩ | ⟨b, off, e, -⟩
      · exact List.eq_nil_of_length_eq_zero h0
      · cases e
    have hc : cap = 0 := by
      rcases HL.out with ⟨-, -, h0⟩ | ⟨b, off, e, -⟩
      · exact h0
      · cases e
    subst hL hc
    have he : ∀ W : World, (binOp .eql 87 (.slice none 0 0) (.slice none 0 0)).run Try.prog W = .ok (.bool true) W := fun _ => rfl
    go_enter Try.func130, Try.ntmps130
    go_wp2
    go_ret
    exact ⟨none, 0, rfl, NewV.nil _ _, Below.refl _ _⟩
  | some ad =>
    have he : ∀ (W : World) (n c : Nat), (binOp .eql 87 (.slice (some ad) n c) (.slice none 0 0)).run Try.prog W = .ok (.bool false) W := fun _ _ _ => rfl
    have b0 := below_al w (.cells #[] 105)
    have HE := hide (empty_new w w.heap.size (Nat.le_refl _))
    by_cases hL : L = []
    · subst hL
      go_enter Try.func130, Try.ntmps130
      go_wp2_with (at_builtin; refine wpList_append_zero rfl (.tmp 5) (.tmp 6) 87 rfl 105 i0 Try.underlying87 hi (some ⟨w.heap.size, 0, none⟩) 0 0 rfl (Nat.le_refl _) (some ad) cap rfl ?_)
      go_ret
      exact ⟨_, _, rfl, NewV.of HE.out, b0⟩
    · obtain ⟨b, off, e0, hbw, -⟩ := hr.open (List.length_pos_iff.2 hL)
      simp only [Option.some.injEq] at e0
      subst e0
      have HSrc := hide (rdV_src (hr.below b0))
      have hpos : 0 < L.length := List.length_pos_iff.2 hL
      obtain ⟨n, hN⟩ : ∃ n, n = L.length := ⟨_, rfl⟩
      have hC := cells3_length L
      rw [← hN] at hn hpos hC ⊢
      have HN := hide hN
      have HC := hide hC
      clear hN hC hr hL
      go_enter Try.func130, Try.ntmps130
      go_wp2_with (at_builtin; refine wpList_append_lies _ rfl (.tmp 5) (.tmp 6) 87 rfl w.heap.size 105 i0 (.agg #[.int .i64 0, .int .i64 0, .string ⟨#[]⟩]) 3 32 Try.underlying87 hi hz0 hz1 hz2 rfl (by omega) (.slice (some ⟨w.heap.size, 0, none⟩) 0 0) 0 [] rfl HE.out ⟨b, off, none⟩ n cap (cells3 L) ?hx HC.out HSrc.out (cells3_one L) hpos (by unfold maxLen; omega) (by omega) b0.size _ rfl ?_)
      case hx => simp [Act.eval]
      intro g5 c5 w5 ho5 hg5 hat5 hlt5
      have HO5 : Hid (NewV w5 w.heap.size (some ⟨g5, 0, none⟩) c5 L) := by
        refine NewV.of ?_
        rw [← HN.out]
        simpa using ho5
      have B5 := b0.grown hg5 b0.size (fun k hk => (HE.out.lt k hk).1)
      clear ho5 hg5 hat5 hlt5
      go_wp2
      go_ret
      exact ⟨_, _, rfl, HO5.out, B5⟩

set_option maxRecDepth 100000 in
set_option maxHeartbeats 1600000 in
theorem l3Copy_any (kd : ByteArray) (a : Option Addr) (cap : Nat) (L : List V3) (w : World) (hr : RdV w a L) (hn : L.length ≤ 1048580) :
    Calls Try.prog 92 #[.agg #[.string kd, .slice a L.length cap]] w fun e w' => ∃ a' c', e = .returned (.agg #[.string kd, .slice a' L.length c']) ∧ NewV w' w.heap.size a' c' L ∧ Below w.heap.size w w' := by
  obtain ⟨i0, hi, hz0, hz1, hz2⟩ := info_parts Try.info105
  have b0 := below_al w (.cells #[.string kd, .slice a L.length cap] 89)
  have b1 := b0.alloc b0.size (.cells #[.string ⟨#[]⟩, .slice none 0 0] 89)
  have b2 := b1.alloc b1.size (.cells #[] 105)
  have hX := box_old (box_old (box2_new w (.string kd) (.slice a L.length cap) 89) (by simp) (.cells #[.string ⟨#[]⟩, .slice none 0 0] 89)) (by simp; omega) (.cells #[] 105)
  have hR := box_old (box2_new (w.alloc (.cells #[.string kd, .slice a L.length cap] 89)) (.string ⟨#[]⟩) (.slice none 0 0) 89) (by simp) (.cells #[] 105)
  have hE := empty_new ((w.alloc (.cells #[.string kd, .slice a L.length cap] 89)).alloc (.cells #[.string ⟨#[]⟩, .slice none 0 0] 89)) (w.heap.size + 1 + 1) (by simp)
  simp only [World.size_alloc] at hX hR hE
  by_cases hL : L = []
  · subst hL
    clear hX hR hE
    have HB := hide (((below_al w (.cells #[.string kd, .slice (some ⟨w.heap.size + 1 + 1, 0, none⟩) 0 0] 89)).alloc (by simp) (.cells #[.string kd, .slice (some ⟨w.heap.size + 1 + 1, 0, none⟩) 0 0] 89)).alloc (by simp; omega) (.cells #[] 105))
    have hE := empty_new ((w.alloc (.cells #[.string kd, .slice (some ⟨w.heap.size + 1 + 1, 0, none⟩) 0 0] 89)).alloc (.cells #[.string kd, .slice (some ⟨w.heap.size + 1 + 1, 0, none⟩) 0 0] 89)) w.heap.size (by simp; omega)
    simp only [World.size_alloc] at hE
    have HE := hide (NewV.of hE)
    clear hE b0 b1 b2
    go_enter Try.func92, Try.ntmps92
    go_wp2_with (at_builtin; refine wpList_append_zero rfl (.tmp 3) (.tmp 5) 87 rfl 105 i0 Try.underlying87 hi (some ⟨w.heap.size + 1 + 1, 0, none⟩) 0 0 rfl (Nat.le_refl _) a cap rfl ?_)
    exact bodyPost_ret (v := .agg #[.string kd, .slice (some ⟨w.heap.size + 1 + 1, 0, none⟩) 0 0]) (by simp [results, Try.results92, go_sem]) rfl ⟨_, _, rfl, HE.out, HB.out⟩
  · obtain ⟨b, off, e0, hbw, -⟩ := hr.open (List.length_pos_iff.2 hL)
    subst e0
    have HSrc := hide (rdV_src (hr.below b2))
    have hpos : 0 < L.length := List.length_pos_iff.2 hL
    obtain ⟨n, hN⟩ : ∃ n, n = L.length := ⟨_, rfl⟩
    have hC := cells3_length L
    rw [← hN] at hn hpos hC hX hR b0 b1 b2 HSrc hE ⊢
    have HN := hide hN
    have HC := hide hC
    have HX := hide hX
    have HR := hide hR
    have HE := hide hE
    have HB := hide b2
    have HZ : Hid (w.heap.size + 1 + 1 ≤ (((w.alloc (.cells #[.string kd, .slice (some ⟨b, off, none⟩) n cap] 89)).alloc (.cells #[.string ⟨#[]⟩, .slice none 0 0] 89)).alloc (.cells #[] 105)).heap.size) := by unfold Hid; simp
    clear hN hC hr hL hX hR hE b0 b1 b2
    go_enter Try.func92, Try.ntmps92
    go_wp2_with (at_builtin; refine wpList_append_lies _ rfl (.tmp 3) (.tmp 5) 87 rfl (w.heap.size + 1 + 1) 105 i0 (.agg #[.int .i64 0, .int .i64 0, .string ⟨#[]⟩]) 3 32 Try.underlying87 hi hz0 hz1 hz2 rfl (by omega) (.slice (some ⟨w.heap.size + 1 + 1, 0, none⟩) 0 0) 0 [] rfl HE.out ⟨b, off, none⟩ n cap (cells3 L) ?hx HC.out HSrc.out (cells3_one L) hpos (by unfold maxLen; omega) (by omega) HZ.out _ rfl ?_)
    case hx => simp [Act.eval]
    intro g5 c5 w5 ho5 hg5 hat5 hlt5
    have HV5 : Hid (NewV w5 (w.heap.size + 1 + 1) (some ⟨g5, 0, none⟩) c5 L) := by
      refine NewV.of ?_
      rw [← HN.out]
      simpa using ho5
    have B5 := HB.out.grown hg5 HB.out.size (fun k hk => Nat.le_trans (by omega) (HE.out.lt k hk).1)
    have HX5 := hide (box_gr HX.out hg5 (show w.heap.size ≠ w.heap.size + 1 + 1 by omega))
    have HR5 := hide (box_gr HR.out hg5 (show w.heap.size + 1 ≠ w.heap.size + 1 + 1 by omega))
    clear ho5 hg5 hat5 hlt5 HSrc HX HR HE HB HZ
    obtain ⟨x0, x1, xf0, xf1⟩ := box2_cell HX5.out
    obtain ⟨r0, r1, rf0, rf1⟩ := box2_cell HR5.out
    have HS := hide (box2_set1 HX5.out (.slice (some ⟨g5, 0, none⟩) n c5))
    have HR2 := hide (box_gr HR5.out HS.out.2 (by omega))
    go_wp2
    refine box2_post HR2.out (fun w4 h4 gr => ?_)
    clear x0 x1 xf0 xf1 r0 r1 rf0 rf1
    obtain ⟨c0, c1, -, -⟩ := box2_cell h4
    exact bodyPost_ret (v := .agg #[.string kd, .slice (some ⟨g5, 0, none⟩) n c5]) (by simp [results, Try.results92, go_sem, c0, c1]) rfl
      ⟨_, _, rfl, ((HV5.out.grown HS.out.2 (by omega)).grown gr (by omega)).low (by omega), below_set (B5.grown HS.out.2 B5.size (fun k hk => by cases hk; omega)) gr (by omega)⟩

theorem box_drew {w w' : World} {R : Nat} {o : Obj} (h : w.heap[R]? = some o) (hb : Below w.drew.heap.size w.drew w') : w'.heap[R]? = some o := box_step (w := w.drew) h hb

set_option maxRecDepth 100000 in
set_option maxHeartbeats 3200000 in
theorem copyFact_any (kd : ByteArray) (a : Option Addr) (cap : Nat) (L : List V3) (w : World) (hr : RdV w a L) (hl : LieV a L.length cap) (hn : L.length ≤ 1048580) :
    Calls Try.prog 98 #[.agg #[.string kd, .slice a L.length cap]] w fun e w' => ∃ a' c', e = .returned (.agg #[.string kd, .slice a' L.length c']) ∧ NewV w' w.heap.size a' c' L ∧ Below w.heap.size w w' := by
  have b0 := below_al w (.cells #[.string kd, .slice a L.length cap] 89)
  have b1 := b0.alloc b0.size (.cells #[.string ⟨#[]⟩, .slice none 0 0] 89)
  have hX := box_old (box2_new w (.string kd) (.slice a L.length cap) 89) (by simp) (.cells #[.string ⟨#[]⟩, .slice none 0 0] 89)
  have hR := box2_new (w.alloc (.cells #[.string kd, .slice a L.length cap] 89)) (.string ⟨#[]⟩) (.slice none 0 0) 89
  have hz : w.heap.size + 1 + 1 ≤ ((w.alloc (.cells #[.string kd, .slice a L.length cap] 89)).alloc (.cells #[.string ⟨#[]⟩, .slice none 0 0] 89)).heap.size := by simp
  simp only [World.size_alloc] at hX hR
  have HL := hide hl
  clear hl
  go_enter Try.func98, Try.ntmps98
  go_wp2_with fail
  have r1 := hr.below b1
  generalize (w.alloc (.cells #[.string kd, .slice a L.length cap] 89)).alloc (.cells #[.string ⟨#[]⟩, .slice none 0 0] 89) = w1 at b1 hX hR r1 hz ⊢
  have HX := hide hX
  have HR := hide hR
  obtain ⟨x0, x1, -, -⟩ := box2_cell hX
  have r1d : RdV w1.drew a L := r1.heap rfl
  clear b0 hX hR hr
  go_region_with (first | (go_at_call 130; refine (clone_any a cap L _ r1d HL.out hn).mono ?_; rintro e w2 ⟨a', c', rfl, hv, hb⟩; obtain ⟨y0, y1, -, -⟩ := box2_cell (box_drew HX.out hb); obtain ⟨z0, z1, zf0, zf1⟩ := box2_cell (box_drew HR.out hb)))
  all_goals
    have hB : Below w.heap.size w w2 := b1.trans ((below_dr hb).mono b1.size)
    have hR2 := box_drew HR.out hb
    go_wp2
    refine box2_post hR2 (fun w4 h4 gr => ?_)
    clear x0 x1 y0 y1 z0 z1 zf0 zf1
    obtain ⟨c0, c1, -, -⟩ := box2_cell h4
    exact bodyPost_ret (v := .agg #[.string kd, .slice a' L.length c']) (by simp [results, Try.results98, go_sem, c0, c1]) rfl
      ⟨_, _, rfl, (hv.grown gr (by simp; omega)).low (by simp; omega), below_set hB gr (by omega)⟩
end Go.Proofs.Ytfgigcdfmkfkjaa
/-
  Four cells (two facts in memory) and what two lists of values read as are kept where all that was there is.
-/
namespace Go.Proofs.Ytfgigcdfmkfkjaa
open Go.RowKit
set_option linter.unusedVariables false

/-- two facts in memory, their lists, and all that was there at the head -/
def Two (w0 : World) (B : Nat) (a b : Option Addr) (L M : List V3) (W : World) : Prop := RdV W a L ∧ RdV W b M ∧ Below B w0 W ∧ B ≤ W.heap.size
theorem Two.keep {w0 W w' : World} {B : Nat} {a b : Option Addr} {L M : List V3} (h : Two w0 B a b L M W) (hb : Below W.heap.size W w') : Two w0 B a b L M w' :=
  ⟨h.1.below hb, h.2.1.below hb, h.2.2.1.trans (hb.mono h.2.2.2), Nat.le_trans h.2.2.2 hb.size⟩
theorem Two.drew {w0 W : World} {B : Nat} {a b : Option Addr} {L M : List V3} (h : Two w0 B a b L M W) : Two w0 B a b L M W.drew :=
  ⟨h.1.heap rfl, h.2.1.heap rfl, h.2.2.1.drew, h.2.2.2⟩
theorem keepF {w0 W w' : World} {B : Nat} {p0 p1 p2 p3 : Addr} {v0 v1 v2 v3 : Value} {a b : Option Addr} {L M : List V3} (hb : Below W.heap.size W w')
    (h : W.cell? p0 = some v0 ∧ W.cell? p1 = some v1 ∧ W.cell? p2 = some v2 ∧ W.cell? p3 = some v3 ∧ Two w0 B a b L M W) :
    w'.cell? p0 = some v0 ∧ w'.cell? p1 = some v1 ∧ w'.cell? p2 = some v2 ∧ w'.cell? p3 = some v3 ∧ Two w0 B a b L M w' := by
  obtain ⟨h0, h1, h2, h3, h4⟩ := h
  have k : ∀ {a : Addr} {v : Value}, W.cell? a = some v → w'.cell? a = some v := fun {a v} h => by rw [hb.cell (World.block_lt_of_cell? W _ h)]; exact h
  exact ⟨k h0, k h1, k h2, k h3, h4.keep hb⟩
theorem rdA {w0 W : World} {B : Nat} {p0 p1 p2 p3 : Addr} {v0 v1 v2 v3 : Value} {a b : Option Addr} {L M : List V3}
    (h : W.cell? p0 = some v0 ∧ W.cell? p1 = some v1 ∧ W.cell? p2 = some v2 ∧ W.cell? p3 = some v3 ∧ Two w0 B a b L M W) : RdV W a L := h.2.2.2.2.1
theorem rdB {w0 W : World} {B : Nat} {p0 p1 p2 p3 : Addr} {v0 v1 v2 v3 : Value} {a b : Option Addr} {L M : List V3}
    (h : W.cell? p0 = some v0 ∧ W.cell? p1 = some v1 ∧ W.cell? p2 = some v2 ∧ W.cell? p3 = some v3 ∧ Two w0 B a b L M W) : RdV W b M := h.2.2.2.2.2.1
end Go.Proofs.Ytfgigcdfmkfkjaa
