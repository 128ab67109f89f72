/-
  The contracts of the laws' own helpers on Conds: to copies, sz counts off, eq finds one the same as itself.
-/
import Derived.Test.YtlaoiagpoomldabDoorCondRow
import Derived.Test.YtlaoiagpoomldabDoorLawArg
import Derived.Handy
import Derived.Deep.DeepCutAuto
namespace Go.Proofs.YtlaoiagpoomldabDoor
open Go.RowKit
set_option linter.unusedVariables false

theorem boxes3 (w : World) (c1 c2 c3 : Array Value) (T1 T2 T3 : TypeId) : (((w.alloc (.cells c1 T1)).alloc (.cells c2 T2)).alloc (.cells c3 T3)).heap[w.heap.size]? = some (.cells c1 T1 (0, 0)) ∧ (((w.alloc (.cells c1 T1)).alloc (.cells c2 T2)).alloc (.cells c3 T3)).heap[w.heap.size + 1]? = some (.cells c2 T2 (0, 0)) ∧ (((w.alloc (.cells c1 T1)).alloc (.cells c2 T2)).alloc (.cells c3 T3)).heap[w.heap.size + 1 + 1]? = some (.cells c3 T3 (0, 0)) ∧ Below w.heap.size w (((w.alloc (.cells c1 T1)).alloc (.cells c2 T2)).alloc (.cells c3 T3)) := by
  have b0 := below_al w (.cells c1 T1)
  have b1 := b0.alloc b0.size (.cells c2 T2)
  have b2 := b1.alloc b1.size (.cells c3 T3)
  have hA := box_old (box_old (boxk_new w c1 T1) (by simp) (.cells c2 T2)) (by simp; omega) (.cells c3 T3)
  have hR := box_old (boxk_new (w.alloc (.cells c1 T1)) c2 T2) (by simp) (.cells c3 T3)
  have hX := boxk_new ((w.alloc (.cells c1 T1)).alloc (.cells c2 T2)) c3 T3
  simp only [World.size_alloc] at hR hX
  exact ⟨hA, hR, hX, b2⟩
theorem boxes2 (w : World) (c1 c2 : Array Value) (T1 T2 : TypeId) : ((w.alloc (.cells c1 T1)).alloc (.cells c2 T2)).heap[w.heap.size]? = some (.cells c1 T1 (0, 0)) ∧ ((w.alloc (.cells c1 T1)).alloc (.cells c2 T2)).heap[w.heap.size + 1]? = some (.cells c2 T2 (0, 0)) ∧ Below w.heap.size w ((w.alloc (.cells c1 T1)).alloc (.cells c2 T2)) := by
  have b0 := below_al w (.cells c1 T1)
  have b1 := b0.alloc b0.size (.cells c2 T2)
  have hA := box_old (boxk_new w c1 T1) (by simp) (.cells c2 T2)
  have hX := boxk_new (w.alloc (.cells c1 T1)) c2 T2
  simp only [World.size_alloc] at hX
  exact ⟨hA, hX, b1⟩
theorem box11_set {w : World} {q : Nat} {c0 c1 c2 c3 c4 c5 c6 c7 c8 c9 c10 : Value} {T : TypeId} (h : w.heap[q]? = some (.cells #[c0, c1, c2, c3, c4, c5, c6, c7, c8, c9, c10] T (0, 0))) (v0 v1 v2 v3 v4 v5 v6 v7 v8 v9 v10 : Value) :
    (((((((((((w.setCell ⟨q, 0, none⟩ v0).setCell ⟨q, 1, none⟩ v1).setCell ⟨q, 2, none⟩ v2).setCell ⟨q, 3, none⟩ v3).setCell ⟨q, 4, none⟩ v4).setCell ⟨q, 5, none⟩ v5).setCell ⟨q, 6, none⟩ v6).setCell ⟨q, 7, none⟩ v7).setCell ⟨q, 8, none⟩ v8).setCell ⟨q, 9, none⟩ v9).setCell ⟨q, 10, none⟩ v10).heap[q]? = some (.cells #[v0, v1, v2, v3, v4, v5, v6, v7, v8, v9, v10] T (0, 0)) ∧ w.grownBy (((((((((((w.setCell ⟨q, 0, none⟩ v0).setCell ⟨q, 1, none⟩ v1).setCell ⟨q, 2, none⟩ v2).setCell ⟨q, 3, none⟩ v3).setCell ⟨q, 4, none⟩ v4).setCell ⟨q, 5, none⟩ v5).setCell ⟨q, 6, none⟩ v6).setCell ⟨q, 7, none⟩ v7).setCell ⟨q, 8, none⟩ v8).setCell ⟨q, 9, none⟩ v9).setCell ⟨q, 10, none⟩ v10) (some q) := by
  have g0 := (boxk_set h 0 v0).2
  have h0 : (w.setCell ⟨q, 0, none⟩ v0).heap[q]? = some (.cells #[v0, c1, c2, c3, c4, c5, c6, c7, c8, c9, c10] T (0, 0)) := (boxk_set h 0 v0).1
  have g1 := (boxk_set h0 1 v1).2
  have h1 : ((w.setCell ⟨q, 0, none⟩ v0).setCell ⟨q, 1, none⟩ v1).heap[q]? = some (.cells #[v0, v1, c2, c3, c4, c5, c6, c7, c8, c9, c10] T (0, 0)) := (boxk_set h0 1 v1).1
  have g2 := (boxk_set h1 2 v2).2
  have h2 : (((w.setCell ⟨q, 0, none⟩ v0).setCell ⟨q, 1, none⟩ v1).setCell ⟨q, 2, none⟩ v2).heap[q]? = some (.cells #[v0, v1, v2, c3, c4, c5, c6, c7, c8, c9, c10] T (0, 0)) := (boxk_set h1 2 v2).1
  have g3 := (boxk_set h2 3 v3).2
  have h3 : ((((w.setCell ⟨q, 0, none⟩ v0).setCell ⟨q, 1, none⟩ v1).setCell ⟨q, 2, none⟩ v2).setCell ⟨q, 3, none⟩ v3).heap[q]? = some (.cells #[v0, v1, v2, v3, c4, c5, c6, c7, c8, c9, c10] T (0, 0)) := (boxk_set h2 3 v3).1
  have g4 := (boxk_set h3 4 v4).2
  have h4 : (((((w.setCell ⟨q, 0, none⟩ v0).setCell ⟨q, 1, none⟩ v1).setCell ⟨q, 2, none⟩ v2).setCell ⟨q, 3, none⟩ v3).setCell ⟨q, 4, none⟩ v4).heap[q]? = some (.cells #[v0, v1, v2, v3, v4, c5, c6, c7, c8, c9, c10] T (0, 0)) := (boxk_set h3 4 v4).1
  have g5 := (boxk_set h4 5 v5).2
  have h5 : ((((((w.setCell ⟨q, 0, none⟩ v0).setCell ⟨q, 1, none⟩ v1).setCell ⟨q, 2, none⟩ v2).setCell ⟨q, 3, none⟩ v3).setCell ⟨q, 4, none⟩ v4).setCell ⟨q, 5, none⟩ v5).heap[q]? = some (.cells #[v0, v1, v2, v3, v4, v5, c6, c7, c8, c9, c10] T (0, 0)) := (boxk_set h4 5 v5).1
  have g6 := (boxk_set h5 6 v6).2
  have h6 : (((((((w.setCell ⟨q, 0, none⟩ v0).setCell ⟨q, 1, none⟩ v1).setCell ⟨q, 2, none⟩ v2).setCell ⟨q, 3, none⟩ v3).setCell ⟨q, 4, none⟩ v4).setCell ⟨q, 5, none⟩ v5).setCell ⟨q, 6, none⟩ v6).heap[q]? = some (.cells #[v0, v1, v2, v3, v4, v5, v6, c7, c8, c9, c10] T (0, 0)) := (boxk_set h5 6 v6).1
  have g7 := (boxk_set h6 7 v7).2
  have h7 : ((((((((w.setCell ⟨q, 0, none⟩ v0).setCell ⟨q, 1, none⟩ v1).setCell ⟨q, 2, none⟩ v2).setCell ⟨q, 3, none⟩ v3).setCell ⟨q, 4, none⟩ v4).setCell ⟨q, 5, none⟩ v5).setCell ⟨q, 6, none⟩ v6).setCell ⟨q, 7, none⟩ v7).heap[q]? = some (.cells #[v0, v1, v2, v3, v4, v5, v6, v7, c8, c9, c10] T (0, 0)) := (boxk_set h6 7 v7).1
  have g8 := (boxk_set h7 8 v8).2
  have h8 : (((((((((w.setCell ⟨q, 0, none⟩ v0).setCell ⟨q, 1, none⟩ v1).setCell ⟨q, 2, none⟩ v2).setCell ⟨q, 3, none⟩ v3).setCell ⟨q, 4, none⟩ v4).setCell ⟨q, 5, none⟩ v5).setCell ⟨q, 6, none⟩ v6).setCell ⟨q, 7, none⟩ v7).setCell ⟨q, 8, none⟩ v8).heap[q]? = some (.cells #[v0, v1, v2, v3, v4, v5, v6, v7, v8, c9, c10] T (0, 0)) := (boxk_set h7 8 v8).1
  have g9 := (boxk_set h8 9 v9).2
  have h9 : ((((((((((w.setCell ⟨q, 0, none⟩ v0).setCell ⟨q, 1, none⟩ v1).setCell ⟨q, 2, none⟩ v2).setCell ⟨q, 3, none⟩ v3).setCell ⟨q, 4, none⟩ v4).setCell ⟨q, 5, none⟩ v5).setCell ⟨q, 6, none⟩ v6).setCell ⟨q, 7, none⟩ v7).setCell ⟨q, 8, none⟩ v8).setCell ⟨q, 9, none⟩ v9).heap[q]? = some (.cells #[v0, v1, v2, v3, v4, v5, v6, v7, v8, v9, c10] T (0, 0)) := (boxk_set h8 9 v9).1
  have g10 := (boxk_set h9 10 v10).2
  have h10 : (((((((((((w.setCell ⟨q, 0, none⟩ v0).setCell ⟨q, 1, none⟩ v1).setCell ⟨q, 2, none⟩ v2).setCell ⟨q, 3, none⟩ v3).setCell ⟨q, 4, none⟩ v4).setCell ⟨q, 5, none⟩ v5).setCell ⟨q, 6, none⟩ v6).setCell ⟨q, 7, none⟩ v7).setCell ⟨q, 8, none⟩ v8).setCell ⟨q, 9, none⟩ v9).setCell ⟨q, 10, none⟩ v10).heap[q]? = some (.cells #[v0, v1, v2, v3, v4, v5, v6, v7, v8, v9, v10] T (0, 0)) := (boxk_set h9 10 v10).1
  exact ⟨h10, (grown_tt (grown_tt (grown_tt (grown_tt (grown_tt (grown_tt (grown_tt (grown_tt (grown_tt (grown_tt g0 g1) g2) g3) g4) g5) g6) g7) g8) g9) g10)⟩
theorem box11_setL {w : World} {q : Nat} {c0 c1 c2 c3 c4 c5 c6 c7 c8 c9 c10 : Value} {T : TypeId} (h : w.heap[q]? = some (.cells #[c0, c1, c2, c3, c4, c5, c6, c7, c8, c9, c10] T (0, 0))) (v1 v2 v3 v4 v5 : Value) :
    (((((w.setCell ⟨q, 1, none⟩ v1).setCell ⟨q, 2, none⟩ v2).setCell ⟨q, 3, none⟩ v3).setCell ⟨q, 4, none⟩ v4).setCell ⟨q, 5, none⟩ v5).heap[q]? = some (.cells #[c0, v1, v2, v3, v4, v5, c6, c7, c8, c9, c10] T (0, 0)) ∧ w.grownBy (((((w.setCell ⟨q, 1, none⟩ v1).setCell ⟨q, 2, none⟩ v2).setCell ⟨q, 3, none⟩ v3).setCell ⟨q, 4, none⟩ v4).setCell ⟨q, 5, none⟩ v5) (some q) := by
  have g1 := (boxk_set h 1 v1).2
  have h1 : (w.setCell ⟨q, 1, none⟩ v1).heap[q]? = some (.cells #[c0, v1, c2, c3, c4, c5, c6, c7, c8, c9, c10] T (0, 0)) := (boxk_set h 1 v1).1
  have g2 := (boxk_set h1 2 v2).2
  have h2 : ((w.setCell ⟨q, 1, none⟩ v1).setCell ⟨q, 2, none⟩ v2).heap[q]? = some (.cells #[c0, v1, v2, c3, c4, c5, c6, c7, c8, c9, c10] T (0, 0)) := (boxk_set h1 2 v2).1
  have g3 := (boxk_set h2 3 v3).2
  have h3 : (((w.setCell ⟨q, 1, none⟩ v1).setCell ⟨q, 2, none⟩ v2).setCell ⟨q, 3, none⟩ v3).heap[q]? = some (.cells #[c0, v1, v2, v3, c4, c5, c6, c7, c8, c9, c10] T (0, 0)) := (boxk_set h2 3 v3).1
  have g4 := (boxk_set h3 4 v4).2
  have h4 : ((((w.setCell ⟨q, 1, none⟩ v1).setCell ⟨q, 2, none⟩ v2).setCell ⟨q, 3, none⟩ v3).setCell ⟨q, 4, none⟩ v4).heap[q]? = some (.cells #[c0, v1, v2, v3, v4, c5, c6, c7, c8, c9, c10] T (0, 0)) := (boxk_set h3 4 v4).1
  have g5 := (boxk_set h4 5 v5).2
  have h5 : (((((w.setCell ⟨q, 1, none⟩ v1).setCell ⟨q, 2, none⟩ v2).setCell ⟨q, 3, none⟩ v3).setCell ⟨q, 4, none⟩ v4).setCell ⟨q, 5, none⟩ v5).heap[q]? = some (.cells #[c0, v1, v2, v3, v4, v5, c6, c7, c8, c9, c10] T (0, 0)) := (boxk_set h4 5 v5).1
  exact ⟨h5, (grown_tt (grown_tt (grown_tt (grown_tt g1 g2) g3) g4) g5)⟩
theorem box11_setR {w : World} {q : Nat} {c0 c1 c2 c3 c4 c5 c6 c7 c8 c9 c10 : Value} {T : TypeId} (h : w.heap[q]? = some (.cells #[c0, c1, c2, c3, c4, c5, c6, c7, c8, c9, c10] T (0, 0))) (v6 v7 v8 v9 v10 : Value) :
    (((((w.setCell ⟨q, 6, none⟩ v6).setCell ⟨q, 7, none⟩ v7).setCell ⟨q, 8, none⟩ v8).setCell ⟨q, 9, none⟩ v9).setCell ⟨q, 10, none⟩ v10).heap[q]? = some (.cells #[c0, c1, c2, c3, c4, c5, v6, v7, v8, v9, v10] T (0, 0)) ∧ w.grownBy (((((w.setCell ⟨q, 6, none⟩ v6).setCell ⟨q, 7, none⟩ v7).setCell ⟨q, 8, none⟩ v8).setCell ⟨q, 9, none⟩ v9).setCell ⟨q, 10, none⟩ v10) (some q) := by
  have g6 := (boxk_set h 6 v6).2
  have h6 : (w.setCell ⟨q, 6, none⟩ v6).heap[q]? = some (.cells #[c0, c1, c2, c3, c4, c5, v6, c7, c8, c9, c10] T (0, 0)) := (boxk_set h 6 v6).1
  have g7 := (boxk_set h6 7 v7).2
  have h7 : ((w.setCell ⟨q, 6, none⟩ v6).setCell ⟨q, 7, none⟩ v7).heap[q]? = some (.cells #[c0, c1, c2, c3, c4, c5, v6, v7, c8, c9, c10] T (0, 0)) := (boxk_set h6 7 v7).1
  have g8 := (boxk_set h7 8 v8).2
  have h8 : (((w.setCell ⟨q, 6, none⟩ v6).setCell ⟨q, 7, none⟩ v7).setCell ⟨q, 8, none⟩ v8).heap[q]? = some (.cells #[c0, c1, c2, c3, c4, c5, v6, v7, v8, c9, c10] T (0, 0)) := (boxk_set h7 8 v8).1
  have g9 := (boxk_set h8 9 v9).2
  have h9 : ((((w.setCell ⟨q, 6, none⟩ v6).setCell ⟨q, 7, none⟩ v7).setCell ⟨q, 8, none⟩ v8).setCell ⟨q, 9, none⟩ v9).heap[q]? = some (.cells #[c0, c1, c2, c3, c4, c5, v6, v7, v8, v9, c10] T (0, 0)) := (boxk_set h8 9 v9).1
  have g10 := (boxk_set h9 10 v10).2
  have h10 : (((((w.setCell ⟨q, 6, none⟩ v6).setCell ⟨q, 7, none⟩ v7).setCell ⟨q, 8, none⟩ v8).setCell ⟨q, 9, none⟩ v9).setCell ⟨q, 10, none⟩ v10).heap[q]? = some (.cells #[c0, c1, c2, c3, c4, c5, v6, v7, v8, v9, v10] T (0, 0)) := (boxk_set h9 10 v10).1
  exact ⟨h10, (grown_tt (grown_tt (grown_tt (grown_tt g6 g7) g8) g9) g10)⟩
theorem box11_post {P : Program} {f : Func} {Q : Ending → World → Prop} {x : Exit} {act : Act} {w : World} {q : Nat} {c0 c1 c2 c3 c4 c5 c6 c7 c8 c9 c10 v0 v1 v2 v3 v4 v5 v6 v7 v8 v9 v10 : Value} {T : TypeId} (h : w.heap[q]? = some (.cells #[c0, c1, c2, c3, c4, c5, c6, c7, c8, c9, c10] T (0, 0)))
    (k : ∀ w2, w2.heap[q]? = some (.cells #[v0, v1, v2, v3, v4, v5, v6, v7, v8, v9, v10] T (0, 0)) → w.grownBy w2 (some q) → bodyPost P f Q x act w2) : bodyPost P f Q x act (((((((((((w.setCell ⟨q, 0, none⟩ v0).setCell ⟨q, 1, none⟩ v1).setCell ⟨q, 2, none⟩ v2).setCell ⟨q, 3, none⟩ v3).setCell ⟨q, 4, none⟩ v4).setCell ⟨q, 5, none⟩ v5).setCell ⟨q, 6, none⟩ v6).setCell ⟨q, 7, none⟩ v7).setCell ⟨q, 8, none⟩ v8).setCell ⟨q, 9, none⟩ v9).setCell ⟨q, 10, none⟩ v10) :=
  k _ (box11_set h v0 v1 v2 v3 v4 v5 v6 v7 v8 v9 v10).1 (box11_set h v0 v1 v2 v3 v4 v5 v6 v7 v8 v9 v10).2
theorem Tryd.info34 : (Tryd.prog.info? 34).map (fun i => (i.zero, i.size, i.bytes)) = some (some (.agg #[.int .i64 0, .int .i64 0, .string ⟨#[]⟩, .int .i64 0, .int .i64 0, .string ⟨#[]⟩, .int .i64 0, .string ⟨#[]⟩, .int .i64 0, .int .i64 0, .string ⟨#[]⟩]), 11, 120) := by kernel_rfl

set_option maxRecDepth 100000 in
set_option maxHeartbeats 3200000 in
theorem toCond_any (Op : Int) (LK : Int) (LS : ByteArray) (LVK : Int) (LVN : Int) (LVS : ByteArray) (RK : Int) (RS : ByteArray) (RVK : Int) (RVN : Int) (RVS : ByteArray) (w : World) :
    Calls Tryd.prog 10 #[.agg #[.int .i64 Op, .int .i64 LK, .string LS, .int .i64 LVK, .int .i64 LVN, .string LVS, .int .i64 RK, .string RS, .int .i64 RVK, .int .i64 RVN, .string RVS]] w fun e w' => e = .returned (.agg #[.int .i64 Op, .int .i64 LK, .string LS, .int .i64 LVK, .int .i64 LVN, .string LVS, .int .i64 RK, .string RS, .int .i64 RVK, .int .i64 RVN, .string RVS]) ∧ Below w.heap.size w w' := by
  go_enter Tryd.func10, Tryd.ntmps10
  go_wp2_with fail
  obtain ⟨hA, hR, hX, b2⟩ := boxes3 w #[.int .i64 Op, .int .i64 LK, .string LS, .int .i64 LVK, .int .i64 LVN, .string LVS, .int .i64 RK, .string RS, .int .i64 RVK, .int .i64 RVN, .string RVS] #[.int .i64 0, .int .i64 0, .string ⟨#[]⟩, .int .i64 0, .int .i64 0, .string ⟨#[]⟩, .int .i64 0, .string ⟨#[]⟩, .int .i64 0, .int .i64 0, .string ⟨#[]⟩] #[.int .i64 Op, .int .i64 0, .string ⟨#[]⟩, .int .i64 0, .int .i64 0, .string ⟨#[]⟩, .int .i64 0, .string ⟨#[]⟩, .int .i64 0, .int .i64 0, .string ⟨#[]⟩] 27 34 34
  refine (toArg_any LK LS LVK LVN LVS _).mono ?_
  rintro e w1 ⟨rfl, hb⟩
  have HA := hide (box_below hA hb (by simp; omega))
  have HR := hide (box_below hR hb (by simp))
  have HX := hide (box_below hX hb (by simp))
  have hB : Below w.heap.size w w1 := b2.trans (hb.mono b2.size)
  clear hb hR hX hA b2
  have x0 := boxk_cell HX.out 0 _ rfl
  have xf0 := boxk_frozen HX.out 0
  have x1 := boxk_cell HX.out 1 _ rfl
  have xf1 := boxk_frozen HX.out 1
  have x2 := boxk_cell HX.out 2 _ rfl
  have xf2 := boxk_frozen HX.out 2
  have x3 := boxk_cell HX.out 3 _ rfl
  have xf3 := boxk_frozen HX.out 3
  have x4 := boxk_cell HX.out 4 _ rfl
  have xf4 := boxk_frozen HX.out 4
  have x5 := boxk_cell HX.out 5 _ rfl
  have xf5 := boxk_frozen HX.out 5
  have x6 := boxk_cell HX.out 6 _ rfl
  have xf6 := boxk_frozen HX.out 6
  have x7 := boxk_cell HX.out 7 _ rfl
  have xf7 := boxk_frozen HX.out 7
  have x8 := boxk_cell HX.out 8 _ rfl
  have xf8 := boxk_frozen HX.out 8
  have x9 := boxk_cell HX.out 9 _ rfl
  have xf9 := boxk_frozen HX.out 9
  have x10 := boxk_cell HX.out 10 _ rfl
  have xf10 := boxk_frozen HX.out 10
  have a6 := boxk_cell HA.out 6 _ rfl
  have a7 := boxk_cell HA.out 7 _ rfl
  have a8 := boxk_cell HA.out 8 _ rfl
  have a9 := boxk_cell HA.out 9 _ rfl
  have a10 := boxk_cell HA.out 10 _ rfl
  have HL := hide (box11_setL HX.out (.int .i64 LK) (.string LS) (.int .i64 LVK) (.int .i64 LVN) (.string LVS))
  have HRs := hide (box_gr HR.out HL.out.2 (by omega))
  have HBs := hide (below_set hB HL.out.2 (by omega))
  have HXs := hide HL.out.1
  go_wp2_with fail
  refine (toArg_any RK RS RVK RVN RVS _).mono ?_
  clear x0 xf0 x1 xf1 x2 xf2 x3 xf3 x4 xf4 x5 xf5 x6 xf6 x7 xf7 x8 xf8 x9 xf9 x10 xf10 a6 a7 a8 a9 a10 HX HR HA hB HL
  generalize (((((w1.setCell ⟨w.heap.size + 1 + 1, 1, none⟩ (.int .i64 LK)).setCell ⟨w.heap.size + 1 + 1, 2, none⟩ (.string LS)).setCell ⟨w.heap.size + 1 + 1, 3, none⟩ (.int .i64 LVK)).setCell ⟨w.heap.size + 1 + 1, 4, none⟩ (.int .i64 LVN)).setCell ⟨w.heap.size + 1 + 1, 5, none⟩ (.string LVS)) = w2 at HRs HBs HXs
  rintro e w3 ⟨rfl, hb⟩
  have HR3 := hide (box_step HRs.out hb)
  have HX3 := hide (box_step HXs.out hb)
  have hB3 : Below w.heap.size w w3 := HBs.out.trans (hb.mono HBs.out.size)
  clear hb HRs HBs HXs
  have x0 := boxk_cell HX3.out 0 _ rfl
  have xf0 := boxk_frozen HX3.out 0
  have x1 := boxk_cell HX3.out 1 _ rfl
  have xf1 := boxk_frozen HX3.out 1
  have x2 := boxk_cell HX3.out 2 _ rfl
  have xf2 := boxk_frozen HX3.out 2
  have x3 := boxk_cell HX3.out 3 _ rfl
  have xf3 := boxk_frozen HX3.out 3
  have x4 := boxk_cell HX3.out 4 _ rfl
  have xf4 := boxk_frozen HX3.out 4
  have x5 := boxk_cell HX3.out 5 _ rfl
  have xf5 := boxk_frozen HX3.out 5
  have x6 := boxk_cell HX3.out 6 _ rfl
  have xf6 := boxk_frozen HX3.out 6
  have x7 := boxk_cell HX3.out 7 _ rfl
  have xf7 := boxk_frozen HX3.out 7
  have x8 := boxk_cell HX3.out 8 _ rfl
  have xf8 := boxk_frozen HX3.out 8
  have x9 := boxk_cell HX3.out 9 _ rfl
  have xf9 := boxk_frozen HX3.out 9
  have x10 := boxk_cell HX3.out 10 _ rfl
  have xf10 := boxk_frozen HX3.out 10
  have HX6 := hide (box11_setR HX3.out (.int .i64 RK) (.string RS) (.int .i64 RVK) (.int .i64 RVN) (.string RVS))
  have HR4 := hide (box_gr HR3.out HX6.out.2 (by omega))
  have HB4 := hide (below_set hB3 HX6.out.2 (by omega))
  have HX7 := hide HX6.out.1
  go_upto_region 5 with fail
  clear x0 xf0 x1 xf1 x2 xf2 x3 xf3 x4 xf4 x5 xf5 x6 xf6 x7 xf7 x8 xf8 x9 xf9 x10 xf10 HX6 HX3 HR3 hB3
  generalize (((((w3.setCell ⟨w.heap.size + 1 + 1, 6, none⟩ (.int .i64 RK)).setCell ⟨w.heap.size + 1 + 1, 7, none⟩ (.string RS)).setCell ⟨w.heap.size + 1 + 1, 8, none⟩ (.int .i64 RVK)).setCell ⟨w.heap.size + 1 + 1, 9, none⟩ (.int .i64 RVN)).setCell ⟨w.heap.size + 1 + 1, 10, none⟩ (.string RVS)) = w5 at HR4 HB4 HX7
  have x0 := boxk_cell HX7.out 0 _ rfl
  have r0 := boxk_cell HR4.out 0 _ rfl
  have rf0 := boxk_frozen HR4.out 0
  have x1 := boxk_cell HX7.out 1 _ rfl
  have r1 := boxk_cell HR4.out 1 _ rfl
  have rf1 := boxk_frozen HR4.out 1
  have x2 := boxk_cell HX7.out 2 _ rfl
  have r2 := boxk_cell HR4.out 2 _ rfl
  have rf2 := boxk_frozen HR4.out 2
  have x3 := boxk_cell HX7.out 3 _ rfl
  have r3 := boxk_cell HR4.out 3 _ rfl
  have rf3 := boxk_frozen HR4.out 3
  have x4 := boxk_cell HX7.out 4 _ rfl
  have r4 := boxk_cell HR4.out 4 _ rfl
  have rf4 := boxk_frozen HR4.out 4
  have x5 := boxk_cell HX7.out 5 _ rfl
  have r5 := boxk_cell HR4.out 5 _ rfl
  have rf5 := boxk_frozen HR4.out 5
  have x6 := boxk_cell HX7.out 6 _ rfl
  have r6 := boxk_cell HR4.out 6 _ rfl
  have rf6 := boxk_frozen HR4.out 6
  have x7 := boxk_cell HX7.out 7 _ rfl
  have r7 := boxk_cell HR4.out 7 _ rfl
  have rf7 := boxk_frozen HR4.out 7
  have x8 := boxk_cell HX7.out 8 _ rfl
  have r8 := boxk_cell HR4.out 8 _ rfl
  have rf8 := boxk_frozen HR4.out 8
  have x9 := boxk_cell HX7.out 9 _ rfl
  have r9 := boxk_cell HR4.out 9 _ rfl
  have rf9 := boxk_frozen HR4.out 9
  have x10 := boxk_cell HX7.out 10 _ rfl
  have r10 := boxk_cell HR4.out 10 _ rfl
  have rf10 := boxk_frozen HR4.out 10
  go_wp2
  refine box11_post HR4.out (fun w4 h4 gr => ?_)
  clear x0 r0 rf0 x1 r1 rf1 x2 r2 rf2 x3 r3 rf3 x4 r4 rf4 x5 r5 rf5 x6 r6 rf6 x7 r7 rf7 x8 r8 rf8 x9 r9 rf9 x10 r10 rf10
  have c0 := boxk_cell h4 0 _ rfl
  have c1 := boxk_cell h4 1 _ rfl
  have c2 := boxk_cell h4 2 _ rfl
  have c3 := boxk_cell h4 3 _ rfl
  have c4 := boxk_cell h4 4 _ rfl
  have c5 := boxk_cell h4 5 _ rfl
  have c6 := boxk_cell h4 6 _ rfl
  have c7 := boxk_cell h4 7 _ rfl
  have c8 := boxk_cell h4 8 _ rfl
  have c9 := boxk_cell h4 9 _ rfl
  have c10 := boxk_cell h4 10 _ rfl
  exact bodyPost_ret (v := .agg #[.int .i64 Op, .int .i64 LK, .string LS, .int .i64 LVK, .int .i64 LVN, .string LVS, .int .i64 RK, .string RS, .int .i64 RVK, .int .i64 RVN, .string RVS]) (by simp [results, Tryd.results10, go_sem, c0, c1, c2, c3, c4, c5, c6, c7, c8, c9, c10]) rfl ⟨rfl, below_set HB4.out gr (by omega)⟩

set_option maxRecDepth 100000 in
set_option maxHeartbeats 1600000 in
theorem szCond_any (Op : Int) (LK : Int) (LS : ByteArray) (LVK : Int) (LVN : Int) (LVS : ByteArray) (RK : Int) (RS : ByteArray) (RVK : Int) (RVN : Int) (RVS : ByteArray) (left : Int) (w : World) (s0 : LS.size ≤ maxLen) (s1 : LVS.size ≤ maxLen) (s2 : RS.size ≤ maxLen) (s3 : RVS.size ≤ maxLen) (h0 : 0 ≤ left) (h1 : left ≤ 1048576) :
    Calls Tryd.prog 8 #[.agg #[.int .i64 Op, .int .i64 LK, .string LS, .int .i64 LVK, .int .i64 LVN, .string LVS, .int .i64 RK, .string RS, .int .i64 RVK, .int .i64 RVN, .string RVS], .int .i64 left] w fun e w' =>
      (∃ r, e = .returned (.int .i64 r) ∧ (r = -1 ∨ (0 ≤ r ∧ r + (LS.size : Int) + (LVS.size : Int) + (RS.size : Int) + (RVS.size : Int) ≤ left))) ∧ Below w.heap.size w w' := by
  go_enter Tryd.func8, Tryd.ntmps8
  go_wp2_with fail
  have b0 := below_al w (.cells #[.int .i64 Op, .int .i64 LK, .string LS, .int .i64 LVK, .int .i64 LVN, .string LVS, .int .i64 RK, .string RS, .int .i64 RVK, .int .i64 RVN, .string RVS] 27)
  have hA := boxk_new w #[.int .i64 Op, .int .i64 LK, .string LS, .int .i64 LVK, .int .i64 LVN, .string LVS, .int .i64 RK, .string RS, .int .i64 RVK, .int .i64 RVN, .string RVS] 27
  refine (szArg_any LK LS LVK LVN LVS left _ s0 s1 h0 h1).mono ?_
  rintro e w1 ⟨⟨r, rfl, hr⟩, hb1⟩
  have HA1 := hide (box_below hA hb1 (by simp))
  have hB1 : Below w.heap.size w w1 := b0.trans (hb1.mono b0.size)
  clear hb1 b0 hA
  rcases hr with rfl | ⟨h2, h3⟩
  · go_wp2
    go_ret
    exact ⟨⟨-1, rfl, .inl rfl⟩, hB1⟩
  · have H3 := hide h3
    have h4 : r ≤ 1048576 := by omega
    clear h3
    have a6 := boxk_cell HA1.out 6 _ rfl
    have a7 := boxk_cell HA1.out 7 _ rfl
    have a8 := boxk_cell HA1.out 8 _ rfl
    have a9 := boxk_cell HA1.out 9 _ rfl
    have a10 := boxk_cell HA1.out 10 _ rfl
    go_wp2_with fail
    refine (szArg_any RK RS RVK RVN RVS r _ s2 s3 h2 h4).mono ?_
    rintro e w2 ⟨⟨r2, rfl, hr2⟩, hb2⟩
    have hB2 : Below w.heap.size w w2 := hB1.trans (hb2.mono hB1.size)
    clear hb2 hB1 HA1 a6 a7 a8 a9 a10
    rcases hr2 with rfl | ⟨h5, h6⟩
    · go_wp2
      go_ret
      exact ⟨⟨-1, rfl, .inl rfl⟩, hB2⟩
    · have H6 := hide h6
      clear h6
      go_wp2
      go_ret
      have := H3.out
      have := H6.out
      exact ⟨⟨_, rfl, .inr ⟨h5, by omega⟩⟩, hB2⟩

end Go.Proofs.YtlaoiagpoomldabDoor
