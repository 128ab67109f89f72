/-
  Texts of this claim joined into one: CopyL, AssP, L4Ass, HoldsO, Draw, DrawB, BoxK, L4Drop, DrawV, DrawS, DrawF, DrawSt.
-/
import Derived.Test.YtbellpalomiokadDoorJoined2
import Derived.Test.YtbellpalomiokadDoorJoined1
import Derived.Test.YtbellpalomiokadDoorJBox2
import Derived.Deep.AppendLies
import Derived.Test.YtbellpalomiokadDoorJBox
import Derived.Handy
import Derived.Test.YtbellpalomiokadDoorJV3
import Derived.Test.YtbellpalomiokadDoorJLawFact
import Derived.Deep.RegionLaw
/-
  The model's copy of a store: its items in a block of the call's own (none where there are none), their lists each in its own.
-/
namespace Go.Proofs.YtbellpalomiokadDoor
open Go.RowKit
set_option linter.unusedVariables false

/-- as rebase, below lo nothing is asked -/
theorem Copied.rebase2 {w w' : World} {lo g g' : Nat} {J K : List It} {k : Nat} (h : Copied w lo g J K k) (hk : ∀ q, lo ≤ q → q < w.heap.size → q ≠ g → w'.heap[q]? = w.heap[q]?) (hg : g' = g ∨ w.heap.size ≤ g') : Copied w' lo g' J K k := by
  refine ⟨fun i hi => ?_, h.2⟩
  obtain ⟨h1, h2, h3⟩ := h.1 i hi
  refine ⟨h1, fun hne => ?_, h3⟩
  obtain ⟨q, e, hl, hq, o⟩ := h2 hne
  have hlt := o.lt
  refine ⟨q, e, hl, by rcases hg with rfl | hg; exact hq; omega, ?_⟩
  exact ownsRow_sameB o (fun j hj => by simp only [Value.ownBlock, Option.some.injEq] at hj; rw [← hj]; exact hk q hl hlt hq)
/-- a store's items, in a block of the call's own or none at all -/
def GivesS (w : World) (lo : Nat) (v : Value) (n : Nat) (K : List It) : Prop := (n = 0 ∧ K = [] ∧ v = .slice none 0 0) ∨ ∃ g cp, v = .slice (some ⟨g, 0, none⟩) n cp ∧ HoldsI w lo g cp K
theorem sI5 {w W : World} {b off n cap k : Nat} {nx : Int} {J : List It} {x : It} (hA : W.heap[w.heap.size]? = some (.cells #[.slice (some ⟨b, off, none⟩) n cap, .int .i64 nx] 26 (0, 0))) (hr : RdI w (some ⟨b, off, none⟩) J) (hB : Below w.heap.size w W) (hk : k < J.length) (hx : x = iAt J k) :
    W.cell? ⟨w.heap.size, 0, none⟩ = some (.slice (some ⟨b, off, none⟩) n cap) ∧ W.cell? ⟨b, off + k * 3, none⟩ = some (.int .i64 x.id) ∧ W.cell? ⟨b, off + k * 3 + 1, none⟩ = some (.string x.kd) ∧ W.cell? ⟨b, off + k * 3 + 2, none⟩ = some (.slice x.a x.L.length x.cap) := by
  obtain ⟨b2, off2, e, h0, h1, h2, -⟩ := hr.below hB k hk
  simp only [Option.some.injEq, Addr.mk.injEq] at e
  obtain ⟨rfl, rfl, -⟩ := e
  rw [hx]
  exact ⟨(box2_cell hA).1, h0, h1, h2⟩
theorem sI {w wr W : World} {b off n cap k q : Nat} {nx : Int} {J : List It} {x : It} {o : Obj} (hA : wr.heap[w.heap.size]? = some (.cells #[.slice (some ⟨b, off, none⟩) n cap, .int .i64 nx] 26 (0, 0))) (hO : wr.heap[q]? = some o) (hr : RdI w (some ⟨b, off, none⟩) J) (hk : k < J.length) (hb : Below wr.heap.size wr W) (hB : Below w.heap.size w W) (hx : x = iAt J k) :
    W.cell? ⟨w.heap.size, 0, none⟩ = some (.slice (some ⟨b, off, none⟩) n cap) ∧ W.cell? ⟨b, off + k * 3, none⟩ = some (.int .i64 x.id) ∧ W.cell? ⟨b, off + k * 3 + 1, none⟩ = some (.string x.kd) ∧ W.cell? ⟨b, off + k * 3 + 2, none⟩ = some (.slice x.a x.L.length x.cap) :=
  sI5 (box_step hA hb) hr hB hk hx

set_option maxRecDepth 100000 in
set_option maxHeartbeats 12800000 in
theorem l4Copy_any (a : Option Addr) (n cap : Nat) (nx : Int) (J : List It) (w : World) (hr : RdI w a J) (hJ : J.length = n) (hn : n ≤ 1048576) (hl : ∀ i, i < J.length → (iAt J i).L.length ≤ 1048580) :
    Calls Tryd.prog 26 #[.agg #[.slice a n cap, .int .i64 nx]] w fun e w' =>
      ∃ K v, e = .returned (.agg #[v, .int .i64 nx]) ∧ GivesS w' w.heap.size v n K ∧ K.map It.pl = J.map It.pl ∧ Below w.heap.size w w' := by
  obtain ⟨i0, hi, hz0, hz1, hz2⟩ := info_parts Tryd.info38
  have HJ := hide hJ
  have HL := hide hl
  clear hJ hl
  have b0 := below_al w (.cells #[.slice a n cap, .int .i64 nx] 26)
  have b1 := b0.alloc b0.size (.cells #[.slice none 0 0, .int .i64 0] 26)
  have b2 := b1.alloc b1.size (.cells #[.slice none 0 0, .int .i64 nx] 26)
  have hA := box_old (box_old (box2_new w (.slice a n cap) (.int .i64 nx) 26) (by simp) (.cells #[.slice none 0 0, .int .i64 0] 26)) (by simp; omega) (.cells #[.slice none 0 0, .int .i64 nx] 26)
  have hR := box_old (box2_new (w.alloc (.cells #[.slice a n cap, .int .i64 nx] 26)) (.slice none 0 0) (.int .i64 0) 26) (by simp) (.cells #[.slice none 0 0, .int .i64 nx] 26)
  have hO := box2_new ((w.alloc (.cells #[.slice a n cap, .int .i64 nx] 26)).alloc (.cells #[.slice none 0 0, .int .i64 0] 26)) (.slice none 0 0) (.int .i64 nx) 26
  simp only [World.size_alloc] at hA hR hO
  go_enter Tryd.func26, Tryd.ntmps26
  go_wp2
  generalize ((w.alloc (.cells #[.slice a n cap, .int .i64 nx] 26)).alloc (.cells #[.slice none 0 0, .int .i64 0] 26)).alloc (.cells #[.slice none 0 0, .int .i64 nx] 26) = w0 at b2 hA hR hO ⊢
  clear b0 b1
  go_loopw [4] (fun i wr => ∃ (k g : Nat) (v : Value) (K : List It), k ≤ n ∧ i = .int .i64 k ∧ K.length = k ∧ wr.heap[w.heap.size + 1 + 1]? = some (.cells #[v, .int .i64 nx] 26 (0, 0)) ∧ wr.heap[w.heap.size]? = some (.cells #[.slice a n cap, .int .i64 nx] 26 (0, 0)) ∧ wr.heap[w.heap.size + 1]? = some (.cells #[.slice none 0 0, .int .i64 0] 26 (0, 0)) ∧ ((k = 0 ∧ v = .slice none 0 0) ∨ ∃ cp, v = .slice (some ⟨g, 0, none⟩) k cp ∧ w.heap.size + 1 + 1 + 1 ≤ g) ∧ g < wr.heap.size ∧ wr.ownsRow (w.heap.size + 1 + 1 + 1) 38 3 v k (rowOf It.cells K) ∧ Copied wr (w.heap.size + 1 + 1 + 1) g J K k ∧ Below w.heap.size w wr)
    (fun i _ => n - (intOf i).toNat)
  case atStart => exact ⟨0, w.heap.size, .slice none 0 0, [], Nat.zero_le _, rfl, rfl, hO, hA, hR, Or.inl ⟨rfl, rfl⟩, (Array.getElem?_eq_some_iff.1 hA).1, World.ownsRow_nil _ _ _ _, Copied.zero _ _ _ _ _, b2⟩
  case round =>
    clear hO hA hR b2
    obtain ⟨k, g, v, K, hk, rfl, hKk, hO, hA, hR, hvg, hgs, hown, hcop, hbel⟩ := hrel
    have HKk := hide hKk
    have HCop := hide hcop
    have HOwn := hide hown
    have hlo : w.heap.size + 1 + 1 + 1 ≤ wr.heap.size := (Array.getElem?_eq_some_iff.1 hO).1
    have HOb : Hid (∀ q, v.ownBlock = some q → q = g ∧ w.heap.size + 1 + 1 + 1 ≤ q) := by
      intro q e
      rcases hvg with ⟨_, rfl⟩ | ⟨cp, rfl, hl⟩
      · cases e
      · cases e; exact ⟨rfl, hl⟩
    clear hKk hcop hown
    by_cases hlt : k < n
    · have HKn : Hid (k < J.length) := by unfold Hid; rw [HJ.out]; exact hlt
      obtain ⟨b, off, hab, hbw, -⟩ := hr.open (by rw [HJ.out]; omega)
      subst hab
      obtain ⟨b', off', e', c0, c1, c2, hv⟩ := hr.below hbel k HKn.out
      have HLk := hide (HL.out k HKn.out)
      clear b' off' e' c0 c1 c2 hvg
      obtain ⟨x, hx⟩ : ∃ x, x = iAt J k := ⟨_, rfl⟩
      have S0 := sI5 hA hr hbel HKn.out hx
      rw [← hx] at hv HLk
      have HX := hide hx
      clear hx
      obtain ⟨id, kd, va, vc, L⟩ := x
      simp only at S0 hv HLk
      obtain ⟨o0, -, -, -⟩ := box2_cell hO
      have hvd : RdV wr.drew va L := hv.heap rfl
      obtain ⟨s0, s1, s2, s3⟩ := S0
      go_wp2_with fail
      have S0 := And.intro s0 (And.intro s1 (And.intro s2 s3))
      clear s0 s1 s2 s3
      refine wp_region_held_drew (S := fun W => W.cell? ⟨w.heap.size, 0, none⟩ = some (.slice (some ⟨b, off, none⟩) n cap) ∧ W.cell? ⟨b, off + k * 3, none⟩ = some (.int .i64 id) ∧ W.cell? ⟨b, off + k * 3 + 1, none⟩ = some (.string kd) ∧ W.cell? ⟨b, off + k * 3 + 2, none⟩ = some (.slice va L.length vc)) (by kernel_rfl) S0 (fun hHeld => ?_)
      refine wpAnyH_take (i := 0) (oi := Oper.mk (some 15) _ _ _ _ _) (v := ?v1) rfl (by kernel_rfl) (by kernel_rfl) (by kernel_rfl) (fun _ _ _ h => h) (Or.inl ⟨by rfl, ?y1⟩) hHeld ?r1
      case y1 => (intro W hSW; obtain ⟨q0, q1, q2, q3⟩ := hSW; go_simp; try with_reducible rfl)
      simp only [Act.put, List.setIfInBounds_toArray, List.set_cons_zero, List.set_cons_succ]
      refine wpAnyH_take (i := 2) (oi := Oper.mk (some 17) _ _ _ _ _) (v := ?v2) rfl (by kernel_rfl) (by kernel_rfl) (by kernel_rfl) (fun _ _ _ h => h) (Or.inl ⟨by rfl, ?y2⟩) hHeld ?r2
      case y2 => (intro W hSW; obtain ⟨q0, q1, q2, q3⟩ := hSW; go_simp; try with_reducible rfl)
      simp only [Act.put, List.setIfInBounds_toArray, List.set_cons_zero, List.set_cons_succ]
      refine wpAnyH_take (i := 3) (oi := Oper.mk (some 18) _ _ _ _ _) (v := ?v3) rfl (by kernel_rfl) (by kernel_rfl) (by kernel_rfl) (fun _ _ _ h => h) (Or.inl ⟨by rfl, ?y3⟩) hHeld ?r3
      case y3 => (intro W hSW; obtain ⟨q0, q1, q2, q3⟩ := hSW; go_simp; try with_reducible rfl)
      simp only [Act.put, List.setIfInBounds_toArray, List.set_cons_zero, List.set_cons_succ]
      refine wpAnyH_take (i := 4) (oi := Oper.mk (some 19) _ _ _ _ _) (v := ?v4) rfl (by kernel_rfl) (by kernel_rfl) (by kernel_rfl) (fun _ _ _ h => h) (Or.inl ⟨by rfl, ?y4⟩) hHeld ?r4
      case y4 => (intro W hSW; obtain ⟨q0, q1, q2, q3⟩ := hSW; go_simp; try with_reducible rfl)
      simp only [Act.put, List.setIfInBounds_toArray, List.set_cons_zero, List.set_cons_succ]
      refine wpAnyH_take (i := 5) (oi := Oper.mk (some 20) _ _ _ _ _) (v := ?v5) rfl (by kernel_rfl) (by kernel_rfl) (by kernel_rfl) (fun _ _ _ h => h) (Or.inl ⟨by rfl, ?y5⟩) hHeld ?r5
      case y5 => (intro W hSW; obtain ⟨q0, q1, q2, q3⟩ := hSW; go_simp; try with_reducible rfl)
      simp only [Act.put, List.setIfInBounds_toArray, List.set_cons_zero, List.set_cons_succ]
      refine wpAnyH_take (i := 6) (oi := Oper.mk (some 21) _ _ _ _ _) (v := ?v6) rfl (by kernel_rfl) (by kernel_rfl) (by kernel_rfl) (fun _ _ _ h => h) (Or.inl ⟨by rfl, ?y6⟩) hHeld ?r6
      case y6 => (intro W hSW; obtain ⟨q0, q1, q2, q3⟩ := hSW; go_simp; try with_reducible rfl)
      simp only [Act.put, List.setIfInBounds_toArray, List.set_cons_zero, List.set_cons_succ]
      refine wpAnyH_take (i := 7) (oi := Oper.mk (some 22) _ _ _ _ _) (v := ?v7) rfl (by kernel_rfl) (by kernel_rfl) (by kernel_rfl) (fun _ _ _ h => h) (Or.inl ⟨by rfl, ?y7⟩) hHeld ?r7
      case y7 => (intro W hSW; obtain ⟨q0, q1, q2, q3⟩ := hSW; go_simp; try with_reducible rfl)
      simp only [Act.put, List.setIfInBounds_toArray, List.set_cons_zero, List.set_cons_succ]
      refine wpAnyH_take (i := 8) (oi := Oper.mk (some 23) _ _ _ _ _) (v := ?v8) rfl (by kernel_rfl) (by kernel_rfl) (by kernel_rfl) (fun _ _ _ h => h) (Or.inl ⟨by rfl, ?y8⟩) hHeld ?r8
      case y8 => (intro W hSW; obtain ⟨q0, q1, q2, q3⟩ := hSW; go_simp; try with_reducible rfl)
      simp only [Act.put, List.setIfInBounds_toArray, List.set_cons_zero, List.set_cons_succ]
      refine wpAnyH_take (i := 9) (oi := Oper.mk (some 24) _ _ _ _ _) (v := ?v9) rfl (by kernel_rfl) (by kernel_rfl) (by kernel_rfl) (fun _ _ _ h => h) (Or.inl ⟨by rfl, ?y9⟩) hHeld ?r9
      case y9 => (intro W hSW; obtain ⟨q0, q1, q2, q3⟩ := hSW; go_simp; try with_reducible rfl)
      simp only [Act.put, List.setIfInBounds_toArray, List.set_cons_zero, List.set_cons_succ]
      refine wpAnyH_take (i := 10) (oi := Oper.mk (some 25) _ _ _ _ _) (v := ?v10) rfl (by kernel_rfl) (by kernel_rfl) (by kernel_rfl) (fun _ _ _ h => h) (Or.inl ⟨by rfl, ?y10⟩) hHeld ?r10
      case y10 => (intro W hSW; obtain ⟨q0, q1, q2, q3⟩ := hSW; go_simp; try with_reducible rfl)
      simp only [Act.put, List.setIfInBounds_toArray, List.set_cons_zero, List.set_cons_succ]
      refine wpAnyH_take (i := 11) (oi := Oper.mk (some 26) _ _ _ _ _) (v := ?v11) rfl (by kernel_rfl) (by kernel_rfl) (by kernel_rfl) (fun _ _ _ h => h) (Or.inl ⟨by rfl, ?y11⟩) hHeld ?r11
      case y11 => (intro W hSW; obtain ⟨q0, q1, q2, q3⟩ := hSW; go_simp; try with_reducible rfl)
      simp only [Act.put, List.setIfInBounds_toArray, List.set_cons_zero, List.set_cons_succ]
      refine wpAnyH_take (i := 12) (oi := Oper.mk (some 27) _ _ _ _ _) (v := ?v12) rfl (by kernel_rfl) (by kernel_rfl) (by kernel_rfl) (fun _ _ _ h => h) (Or.inl ⟨by rfl, ?y12⟩) hHeld ?r12
      case y12 => (intro W hSW; obtain ⟨q0, q1, q2, q3⟩ := hSW; go_simp; try with_reducible rfl)
      simp only [Act.put, List.setIfInBounds_toArray, List.set_cons_zero, List.set_cons_succ]
      refine wpAnyH_take (i := 13) (oi := Oper.mk (some 28) _ _ _ _ _) (v := ?v13) rfl (by kernel_rfl) (by kernel_rfl) (by kernel_rfl) (fun _ _ _ h => h) (Or.inl ⟨by rfl, ?y13⟩) hHeld ?r13
      case y13 => (intro W hSW; obtain ⟨q0, q1, q2, q3⟩ := hSW; go_simp; try with_reducible rfl)
      simp only [Act.put, List.setIfInBounds_toArray, List.set_cons_zero, List.set_cons_succ]
      refine wpAnyH_ready (rs := [1, 14]) (by kernel_rfl) (by simp) (AllReadyH.cons (o := Oper.mk (some 16) _ _ _ _ _) rfl (fun Kk hK => ?_) (AllReadyH.cons (o := Oper.mk (some 29) _ _ _ _ _) rfl (fun Kk hK => ?_) AllReadyH.nil))
      · go_simp
        refine hK.out _ _ S0 (fun hHeld => ?_)
        clear hK Kk
        refine wpAnyH_ready (rs := [14]) (by kernel_rfl) (by simp) (AllReadyH.cons (o := Oper.mk (some 29) _ _ _ _ _) rfl (fun Kk hK => ?_) AllReadyH.nil)
        go_simp
        refine (l3Copy_any kd va vc L _ hvd HLk.out).mono ?_
        rintro e w2 ⟨a', c', rfl, hnew, b2⟩
        have hbr2 : Below wr.heap.size wr w2 := below_dr b2
        have hB2 := hbel.trans (hbr2.mono hbel.size)
        have hO2 := box_step hO hbr2
        have S2 := sI hA hO hr HKn.out hbr2 hB2 HX.out
        obtain ⟨o2, -, -, -⟩ := box2_cell hO2
        refine hK.out _ _ S2 (fun hHeld => ?_)
        clear hK Kk
        refine wpAnyH_take (i := 15) (oi := Oper.mk (some 30) _ _ _ _ _) (v := ?v14) rfl (by kernel_rfl) (by kernel_rfl) (by kernel_rfl) (fun _ _ _ h => h) (Or.inl ⟨by rfl, ?y14⟩) hHeld ?r14
        case y14 => (intro W hSW; obtain ⟨q0, q1, q2, q3⟩ := hSW; go_simp; try with_reducible rfl)
        simp only [Act.put, List.setIfInBounds_toArray, List.set_cons_zero, List.set_cons_succ]
        refine wpAnyH_ready (rs := [16]) (by kernel_rfl) (by simp) (AllReadyH.cons (o := Oper.mk (some 31) _ _ _ _ _) rfl (fun Kk hK => ?_) AllReadyH.nil)
        go_simp
        have ba3 := below_al w2 (.cells #[.int .i64 id, .string kd, .slice a' L.length c'] 38)
        have hbr3 := hbr2.trans (ba3.mono hbr2.size)
        have hB3 := hbel.trans (hbr3.mono hbel.size)
        have hnew3 : NewV _ wr.heap.size a' c' L := hnew.later ba3
        have HSrc := hide (srcI w2 ⟨id, kd, a', c', L⟩)
        have HO3 := hide (ownsRow_below HOwn.out hbr3)
        have hO3 := box_step hO hbr3
        have hA3 := box_step hA hbr3
        have hR3 := box_step hR hbr3
        have S3 := sI hA hO hr HKn.out hbr3 hB3 HX.out
        obtain ⟨o3, -, -, -⟩ := box2_cell hO3
        refine hK.out _ _ S3 (fun hHeld => ?_)
        clear hK Kk
        refine wpAnyH_ready (rs := [17]) (by kernel_rfl) (by simp) (AllReadyH.cons (o := Oper.mk (some 32) _ _ _ _ _) rfl (fun Kk hK => ?_) AllReadyH.nil)
        refine step_append_lies _ rfl (.tmp 16) (.tmp 31) 24 rfl (w.heap.size + 1 + 1 + 1) 38 i0 (.agg #[.int .i64 0, .string ⟨#[]⟩, .slice none 0 0]) 3 48 Tryd.underlying24 hi hz0 hz1 hz2 rfl (by omega) v k (rowOf It.cells K) rfl HO3.out ⟨w2.heap.size, 0, none⟩ 1 1 (It.cells ⟨id, kd, a', c', L⟩) ?hx rfl HSrc.out (oneI _) (by omega) (by unfold maxLen; omega) (by omega) (Nat.le_trans hlo hbr3.size) _ rfl ?_
        case hx => simp [Act.eval]
        intro g5 c5 w5 ho5 hg5 hat5 hlt5
        rw [rowI_app] at ho5
        have hB5 := hB3.grown hg5 hB3.size (fun q e => by have := HOb.out q e; omega)
        have far : ∀ q, q < w.heap.size + 1 + 1 + 1 → w5.heap[q]? = (w2.alloc (.cells #[.int .i64 id, .string kd, .slice a' L.length c'] 38)).heap[q]? := fun q hq => hg5.block q (Nat.lt_of_lt_of_le hq (Nat.le_trans hlo hbr3.size)) (fun e => by have := HOb.out q e.symm; omega)
        have hO5 := (far _ (by omega)).trans hO3
        have hA5 := (far _ (by omega)).trans hA3
        have hR5 := (far _ (by omega)).trans hR3
        have S5 := sI5 hA5 hr hB5 HKn.out HX.out
        obtain ⟨o5, o51, of0, of1⟩ := box2_cell hO5
        have hg5l : w.heap.size + 1 + 1 + 1 ≤ g5 := by
          rcases hat5 with e | e
          · exact (HOb.out g5 e).2
          · rw [e]; exact Nat.le_trans hlo hbr3.size
        have HC3 := hide (HCop.out.more (K' := K ++ [⟨id, kd, a', c', L⟩]) (x := ⟨id, kd, a', c', L⟩) hbr3 (World.grownBy.refl _ _) (fun i hi => iAt_app_lt (by rw [HKk.out]; exact hi)) (by have e := iAt_app_eq K ⟨id, kd, a', c', L⟩; rw [HKk.out] at e; exact e) (by rw [← HX.out]; rfl) (fun hne => by obtain ⟨q, e, h1, o⟩ := hnew3.own hne; exact ⟨q, e, h1, o⟩) hnew3.2 hlo hgs)
        have st := box2_set0 hO5 (.slice (some ⟨g5, 0, none⟩) (k + 1) c5)
        have HC6 := hide (HC3.out.rebase2 (w' := w5.setCell ⟨w.heap.size + 1 + 1, 0, none⟩ (.slice (some ⟨g5, 0, none⟩) (k + 1) c5)) (g' := g5) (fun q hq1 hq hne => (st.2.block q (Nat.lt_of_lt_of_le hq hg5.size) (fun e => by have e2 : q = w.heap.size + 1 + 1 := Option.some.inj e; omega)).trans (hg5.block q hq (fun e => hne (HOb.out q e.symm).1))) (by rcases hat5 with e | e; exact .inl (HOb.out g5 e).1; exact .inr (Nat.le_of_eq e.symm)))
        have HO6 := hide (ownsRow_sameB (w' := w5.setCell ⟨w.heap.size + 1 + 1, 0, none⟩ (.slice (some ⟨g5, 0, none⟩) (k + 1) c5)) ho5 (fun q e => by have e1 : g5 = q := Option.some.inj e; subst e1; exact st.2.block g5 hlt5 (fun e => by have e2 : g5 = w.heap.size + 1 + 1 := Option.some.inj e; omega)))
        have hB6 := below_set hB5 st.2 (by omega)
        have hA6 := box_gr hA5 st.2 (by omega)
        have hR6 := box_gr hR5 st.2 (by omega)
        have hO6 := st.1
        have S6 := sI5 hA6 hr hB6 HKn.out HX.out
        have hlt6 := Nat.lt_of_lt_of_le hlt5 st.2.size
        have HLen : Hid ((K ++ [(⟨id, kd, a', c', L⟩ : It)]).length = k + 1) := by unfold Hid; rw [List.length_append, HKk.out]; rfl
        refine hK.out _ _ S5 (fun hHeld => ?_)
        clear hK Kk
        refine wpAnyH_take (i := 18) (oi := Oper.mk (some 33) _ _ _ _ _) (v := ?v15) rfl (by kernel_rfl) (by kernel_rfl) (by kernel_rfl) (fun _ _ _ h => h) (Or.inl ⟨by rfl, ?y15⟩) hHeld ?r15
        case y15 => (intro W hSW; obtain ⟨q0, q1, q2, q3⟩ := hSW; go_simp; try with_reducible rfl)
        simp only [Act.put, List.setIfInBounds_toArray, List.set_cons_zero, List.set_cons_succ]
        refine wpAnyH_ready (rs := [19]) (by kernel_rfl) (by simp) (AllReadyH.cons (o := Oper.mk none _ _ _ _ _) rfl (fun Kk hK => ?_) AllReadyH.nil)
        go_simp
        refine hK.out _ _ S6 (fun hHeld => ?_)
        clear hK Kk
        refine wpAnyH_done (by kernel_rfl) ?_ _
        have HB6 := hide hB6
        have HA6 := hide hA6
        have HR6 := hide hR6
        have HP6 := hide hO6
        clear S2 S3 S5 S6 st hO6 hA6 hR6 hB6 o5 o51 of0 of1 hO5 hA5 hR5 far hB5 hHeld o3 hO3 hA3 hR3 ho5 hg5 HO3 HSrc hnew3 hB3 hbr3 ba3 o2 hO2 hB2 hbr2 hnew b2 HC3 HCop HOwn hO hA hR S0 o0 
        go_wp2
        go_roundw
        case rel => exact ⟨k + 1, g5, _, _, by omega, by go_num, HLen.out, HP6.out, HA6.out, HR6.out, Or.inr ⟨c5, rfl, hg5l⟩, hlt6, HO6.out, HC6.out, HB6.out⟩
        case measure => simp [intOf]; omega
      · go_simp
        refine (l3Copy_any kd va vc L _ hvd HLk.out).mono ?_
        rintro e w2 ⟨a', c', rfl, hnew, b2⟩
        have hbr2 : Below wr.heap.size wr w2 := below_dr b2
        have hB2 := hbel.trans (hbr2.mono hbel.size)
        have hO2 := box_step hO hbr2
        have S2 := sI hA hO hr HKn.out hbr2 hB2 HX.out
        obtain ⟨o2, -, -, -⟩ := box2_cell hO2
        refine hK.out _ _ S2 (fun hHeld => ?_)
        clear hK Kk
        refine wpAnyH_take (i := 15) (oi := Oper.mk (some 30) _ _ _ _ _) (v := ?v16) rfl (by kernel_rfl) (by kernel_rfl) (by kernel_rfl) (fun _ _ _ h => h) (Or.inl ⟨by rfl, ?y16⟩) hHeld ?r16
        case y16 => (intro W hSW; obtain ⟨q0, q1, q2, q3⟩ := hSW; go_simp; try with_reducible rfl)
        simp only [Act.put, List.setIfInBounds_toArray, List.set_cons_zero, List.set_cons_succ]
        refine wpAnyH_ready (rs := [1, 16]) (by kernel_rfl) (by simp) (AllReadyH.cons (o := Oper.mk (some 16) _ _ _ _ _) rfl (fun Kk hK => ?_) (AllReadyH.cons (o := Oper.mk (some 31) _ _ _ _ _) rfl (fun Kk hK => ?_) AllReadyH.nil))
        · go_simp
          refine hK.out _ _ S2 (fun hHeld => ?_)
          clear hK Kk
          refine wpAnyH_ready (rs := [16]) (by kernel_rfl) (by simp) (AllReadyH.cons (o := Oper.mk (some 31) _ _ _ _ _) rfl (fun Kk hK => ?_) AllReadyH.nil)
          go_simp
          have ba3 := below_al w2 (.cells #[.int .i64 id, .string kd, .slice a' L.length c'] 38)
          have hbr3 := hbr2.trans (ba3.mono hbr2.size)
          have hB3 := hbel.trans (hbr3.mono hbel.size)
          have hnew3 : NewV _ wr.heap.size a' c' L := hnew.later ba3
          have HSrc := hide (srcI w2 ⟨id, kd, a', c', L⟩)
          have HO3 := hide (ownsRow_below HOwn.out hbr3)
          have hO3 := box_step hO hbr3
          have hA3 := box_step hA hbr3
          have hR3 := box_step hR hbr3
          have S3 := sI hA hO hr HKn.out hbr3 hB3 HX.out
          obtain ⟨o3, -, -, -⟩ := box2_cell hO3
          refine hK.out _ _ S3 (fun hHeld => ?_)
          clear hK Kk
          refine wpAnyH_ready (rs := [17]) (by kernel_rfl) (by simp) (AllReadyH.cons (o := Oper.mk (some 32) _ _ _ _ _) rfl (fun Kk hK => ?_) AllReadyH.nil)
          refine step_append_lies _ rfl (.tmp 16) (.tmp 31) 24 rfl (w.heap.size + 1 + 1 + 1) 38 i0 (.agg #[.int .i64 0, .string ⟨#[]⟩, .slice none 0 0]) 3 48 Tryd.underlying24 hi hz0 hz1 hz2 rfl (by omega) v k (rowOf It.cells K) rfl HO3.out ⟨w2.heap.size, 0, none⟩ 1 1 (It.cells ⟨id, kd, a', c', L⟩) ?hx rfl HSrc.out (oneI _) (by omega) (by unfold maxLen; omega) (by omega) (Nat.le_trans hlo hbr3.size) _ rfl ?_
          case hx => simp [Act.eval]
          intro g5 c5 w5 ho5 hg5 hat5 hlt5
          rw [rowI_app] at ho5
          have hB5 := hB3.grown hg5 hB3.size (fun q e => by have := HOb.out q e; omega)
          have far : ∀ q, q < w.heap.size + 1 + 1 + 1 → w5.heap[q]? = (w2.alloc (.cells #[.int .i64 id, .string kd, .slice a' L.length c'] 38)).heap[q]? := fun q hq => hg5.block q (Nat.lt_of_lt_of_le hq (Nat.le_trans hlo hbr3.size)) (fun e => by have := HOb.out q e.symm; omega)
          have hO5 := (far _ (by omega)).trans hO3
          have hA5 := (far _ (by omega)).trans hA3
          have hR5 := (far _ (by omega)).trans hR3
          have S5 := sI5 hA5 hr hB5 HKn.out HX.out
          obtain ⟨o5, o51, of0, of1⟩ := box2_cell hO5
          have hg5l : w.heap.size + 1 + 1 + 1 ≤ g5 := by
            rcases hat5 with e | e
            · exact (HOb.out g5 e).2
            · rw [e]; exact Nat.le_trans hlo hbr3.size
          have HC3 := hide (HCop.out.more (K' := K ++ [⟨id, kd, a', c', L⟩]) (x := ⟨id, kd, a', c', L⟩) hbr3 (World.grownBy.refl _ _) (fun i hi => iAt_app_lt (by rw [HKk.out]; exact hi)) (by have e := iAt_app_eq K ⟨id, kd, a', c', L⟩; rw [HKk.out] at e; exact e) (by rw [← HX.out]; rfl) (fun hne => by obtain ⟨q, e, h1, o⟩ := hnew3.own hne; exact ⟨q, e, h1, o⟩) hnew3.2 hlo hgs)
          have st := box2_set0 hO5 (.slice (some ⟨g5, 0, none⟩) (k + 1) c5)
          have HC6 := hide (HC3.out.rebase2 (w' := w5.setCell ⟨w.heap.size + 1 + 1, 0, none⟩ (.slice (some ⟨g5, 0, none⟩) (k + 1) c5)) (g' := g5) (fun q hq1 hq hne => (st.2.block q (Nat.lt_of_lt_of_le hq hg5.size) (fun e => by have e2 : q = w.heap.size + 1 + 1 := Option.some.inj e; omega)).trans (hg5.block q hq (fun e => hne (HOb.out q e.symm).1))) (by rcases hat5 with e | e; exact .inl (HOb.out g5 e).1; exact .inr (Nat.le_of_eq e.symm)))
          have HO6 := hide (ownsRow_sameB (w' := w5.setCell ⟨w.heap.size + 1 + 1, 0, none⟩ (.slice (some ⟨g5, 0, none⟩) (k + 1) c5)) ho5 (fun q e => by have e1 : g5 = q := Option.some.inj e; subst e1; exact st.2.block g5 hlt5 (fun e => by have e2 : g5 = w.heap.size + 1 + 1 := Option.some.inj e; omega)))
          have hB6 := below_set hB5 st.2 (by omega)
          have hA6 := box_gr hA5 st.2 (by omega)
          have hR6 := box_gr hR5 st.2 (by omega)
          have hO6 := st.1
          have S6 := sI5 hA6 hr hB6 HKn.out HX.out
          have hlt6 := Nat.lt_of_lt_of_le hlt5 st.2.size
          have HLen : Hid ((K ++ [(⟨id, kd, a', c', L⟩ : It)]).length = k + 1) := by unfold Hid; rw [List.length_append, HKk.out]; rfl
          refine hK.out _ _ S5 (fun hHeld => ?_)
          clear hK Kk
          refine wpAnyH_take (i := 18) (oi := Oper.mk (some 33) _ _ _ _ _) (v := ?v17) rfl (by kernel_rfl) (by kernel_rfl) (by kernel_rfl) (fun _ _ _ h => h) (Or.inl ⟨by rfl, ?y17⟩) hHeld ?r17
          case y17 => (intro W hSW; obtain ⟨q0, q1, q2, q3⟩ := hSW; go_simp; try with_reducible rfl)
          simp only [Act.put, List.setIfInBounds_toArray, List.set_cons_zero, List.set_cons_succ]
          refine wpAnyH_ready (rs := [19]) (by kernel_rfl) (by simp) (AllReadyH.cons (o := Oper.mk none _ _ _ _ _) rfl (fun Kk hK => ?_) AllReadyH.nil)
          go_simp
          refine hK.out _ _ S6 (fun hHeld => ?_)
          clear hK Kk
          refine wpAnyH_done (by kernel_rfl) ?_ _
          have HB6 := hide hB6
          have HA6 := hide hA6
          have HR6 := hide hR6
          have HP6 := hide hO6
          clear S2 S3 S5 S6 st hO6 hA6 hR6 hB6 o5 o51 of0 of1 hO5 hA5 hR5 far hB5 hHeld o3 hO3 hA3 hR3 ho5 hg5 HO3 HSrc hnew3 hB3 hbr3 ba3 o2 hO2 hB2 hbr2 hnew b2 HC3 HCop HOwn hO hA hR S0 o0 
          go_wp2
          go_roundw
          case rel => exact ⟨k + 1, g5, _, _, by omega, by go_num, HLen.out, HP6.out, HA6.out, HR6.out, Or.inr ⟨c5, rfl, hg5l⟩, hlt6, HO6.out, HC6.out, HB6.out⟩
          case measure => simp [intOf]; omega
        · go_simp
          have ba3 := below_al w2 (.cells #[.int .i64 id, .string kd, .slice a' L.length c'] 38)
          have hbr3 := hbr2.trans (ba3.mono hbr2.size)
          have hB3 := hbel.trans (hbr3.mono hbel.size)
          have hnew3 : NewV _ wr.heap.size a' c' L := hnew.later ba3
          have HSrc := hide (srcI w2 ⟨id, kd, a', c', L⟩)
          have HO3 := hide (ownsRow_below HOwn.out hbr3)
          have hO3 := box_step hO hbr3
          have hA3 := box_step hA hbr3
          have hR3 := box_step hR hbr3
          have S3 := sI hA hO hr HKn.out hbr3 hB3 HX.out
          obtain ⟨o3, -, -, -⟩ := box2_cell hO3
          refine hK.out _ _ S3 (fun hHeld => ?_)
          clear hK Kk
          refine wpAnyH_ready (rs := [1]) (by kernel_rfl) (by simp) (AllReadyH.cons (o := Oper.mk (some 16) _ _ _ _ _) rfl (fun Kk hK => ?_) AllReadyH.nil)
          go_simp
          refine hK.out _ _ S3 (fun hHeld => ?_)
          clear hK Kk
          refine wpAnyH_ready (rs := [17]) (by kernel_rfl) (by simp) (AllReadyH.cons (o := Oper.mk (some 32) _ _ _ _ _) rfl (fun Kk hK => ?_) AllReadyH.nil)
          refine step_append_lies _ rfl (.tmp 16) (.tmp 31) 24 rfl (w.heap.size + 1 + 1 + 1) 38 i0 (.agg #[.int .i64 0, .string ⟨#[]⟩, .slice none 0 0]) 3 48 Tryd.underlying24 hi hz0 hz1 hz2 rfl (by omega) v k (rowOf It.cells K) rfl HO3.out ⟨w2.heap.size, 0, none⟩ 1 1 (It.cells ⟨id, kd, a', c', L⟩) ?hx rfl HSrc.out (oneI _) (by omega) (by unfold maxLen; omega) (by omega) (Nat.le_trans hlo hbr3.size) _ rfl ?_
          case hx => simp [Act.eval]
          intro g5 c5 w5 ho5 hg5 hat5 hlt5
          rw [rowI_app] at ho5
          have hB5 := hB3.grown hg5 hB3.size (fun q e => by have := HOb.out q e; omega)
          have far : ∀ q, q < w.heap.size + 1 + 1 + 1 → w5.heap[q]? = (w2.alloc (.cells #[.int .i64 id, .string kd, .slice a' L.length c'] 38)).heap[q]? := fun q hq => hg5.block q (Nat.lt_of_lt_of_le hq (Nat.le_trans hlo hbr3.size)) (fun e => by have := HOb.out q e.symm; omega)
          have hO5 := (far _ (by omega)).trans hO3
          have hA5 := (far _ (by omega)).trans hA3
          have hR5 := (far _ (by omega)).trans hR3
          have S5 := sI5 hA5 hr hB5 HKn.out HX.out
          obtain ⟨o5, o51, of0, of1⟩ := box2_cell hO5
          have hg5l : w.heap.size + 1 + 1 + 1 ≤ g5 := by
            rcases hat5 with e | e
            · exact (HOb.out g5 e).2
            · rw [e]; exact Nat.le_trans hlo hbr3.size
          have HC3 := hide (HCop.out.more (K' := K ++ [⟨id, kd, a', c', L⟩]) (x := ⟨id, kd, a', c', L⟩) hbr3 (World.grownBy.refl _ _) (fun i hi => iAt_app_lt (by rw [HKk.out]; exact hi)) (by have e := iAt_app_eq K ⟨id, kd, a', c', L⟩; rw [HKk.out] at e; exact e) (by rw [← HX.out]; rfl) (fun hne => by obtain ⟨q, e, h1, o⟩ := hnew3.own hne; exact ⟨q, e, h1, o⟩) hnew3.2 hlo hgs)
          have st := box2_set0 hO5 (.slice (some ⟨g5, 0, none⟩) (k + 1) c5)
          have HC6 := hide (HC3.out.rebase2 (w' := w5.setCell ⟨w.heap.size + 1 + 1, 0, none⟩ (.slice (some ⟨g5, 0, none⟩) (k + 1) c5)) (g' := g5) (fun q hq1 hq hne => (st.2.block q (Nat.lt_of_lt_of_le hq hg5.size) (fun e => by have e2 : q = w.heap.size + 1 + 1 := Option.some.inj e; omega)).trans (hg5.block q hq (fun e => hne (HOb.out q e.symm).1))) (by rcases hat5 with e | e; exact .inl (HOb.out g5 e).1; exact .inr (Nat.le_of_eq e.symm)))
          have HO6 := hide (ownsRow_sameB (w' := w5.setCell ⟨w.heap.size + 1 + 1, 0, none⟩ (.slice (some ⟨g5, 0, none⟩) (k + 1) c5)) ho5 (fun q e => by have e1 : g5 = q := Option.some.inj e; subst e1; exact st.2.block g5 hlt5 (fun e => by have e2 : g5 = w.heap.size + 1 + 1 := Option.some.inj e; omega)))
          have hB6 := below_set hB5 st.2 (by omega)
          have hA6 := box_gr hA5 st.2 (by omega)
          have hR6 := box_gr hR5 st.2 (by omega)
          have hO6 := st.1
          have S6 := sI5 hA6 hr hB6 HKn.out HX.out
          have hlt6 := Nat.lt_of_lt_of_le hlt5 st.2.size
          have HLen : Hid ((K ++ [(⟨id, kd, a', c', L⟩ : It)]).length = k + 1) := by unfold Hid; rw [List.length_append, HKk.out]; rfl
          refine hK.out _ _ S5 (fun hHeld => ?_)
          clear hK Kk
          refine wpAnyH_take (i := 18) (oi := Oper.mk (some 33) _ _ _ _ _) (v := ?v18) rfl (by kernel_rfl) (by kernel_rfl) (by kernel_rfl) (fun _ _ _ h => h) (Or.inl ⟨by rfl, ?y18⟩) hHeld ?r18
          case y18 => (intro W hSW; obtain ⟨q0, q1, q2, q3⟩ := hSW; go_simp; try with_reducible rfl)
          simp only [Act.put, List.setIfInBounds_toArray, List.set_cons_zero, List.set_cons_succ]
          refine wpAnyH_ready (rs := [19]) (by kernel_rfl) (by simp) (AllReadyH.cons (o := Oper.mk none _ _ _ _ _) rfl (fun Kk hK => ?_) AllReadyH.nil)
          go_simp
          refine hK.out _ _ S6 (fun hHeld => ?_)
          clear hK Kk
          refine wpAnyH_done (by kernel_rfl) ?_ _
          have HB6 := hide hB6
          have HA6 := hide hA6
          have HR6 := hide hR6
          have HP6 := hide hO6
          clear S2 S3 S5 S6 st hO6 hA6 hR6 hB6 o5 o51 of0 of1 hO5 hA5 hR5 far hB5 hHeld o3 hO3 hA3 hR3 ho5 hg5 HO3 HSrc hnew3 hB3 hbr3 ba3 o2 hO2 hB2 hbr2 hnew b2 HC3 HCop HOwn hO hA hR S0 o0 
          go_wp2
          go_roundw
          case rel => exact ⟨k + 1, g5, _, _, by omega, by go_num, HLen.out, HP6.out, HA6.out, HR6.out, Or.inr ⟨c5, rfl, hg5l⟩, hlt6, HO6.out, HC6.out, HB6.out⟩
          case measure => simp [intOf]; omega
    · have hkn : k = K.length := by rw [HKk.out]
      have hkn2 : k = n := by omega
      subst hkn2
      rcases hvg with ⟨hk0, rfl⟩ | ⟨cp, rfl, hgl⟩
      · have e1 : K = [] := List.eq_nil_of_length_eq_zero (by omega)
        have e2 : J = [] := List.eq_nil_of_length_eq_zero (by rw [HJ.out]; exact hk0)
        obtain ⟨z0, z1, zf0, zf1⟩ := box2_cell hR
        obtain ⟨o0, o1, -, -⟩ := box2_cell hO
        obtain ⟨a0, a1, -, -⟩ := box2_cell hA
        go_wp2
        refine box2_post hR (fun w4 h4 gr => ?_)
        clear z0 z1 zf0 zf1 o0 o1 a0 a1
        obtain ⟨d0, d1, -, -⟩ := box2_cell h4
        exact bodyPost_ret (v := .agg #[.slice none 0 0, .int .i64 nx]) (by simp [results, Tryd.results26, go_sem, d0, d1]) rfl ⟨K, .slice none 0 0, rfl, .inl ⟨hk0, e1, rfl⟩, by rw [e1, e2], below_set hbel gr (by omega)⟩
      · have HD := hide (Copied.done (cp := cp) (hkn ▸ HCop.out) (by rw [HKk.out, HJ.out]) hgl (by rw [HKk.out]; exact HOwn.out))
        clear hkn
        obtain ⟨z0, z1, zf0, zf1⟩ := box2_cell hR
        obtain ⟨o0, o1, -, -⟩ := box2_cell hO
        obtain ⟨a0, a1, -, -⟩ := box2_cell hA
        go_wp2
        refine box2_post hR (fun w4 h4 gr => ?_)
        clear z0 z1 zf0 zf1 o0 o1 a0 a1
        obtain ⟨d0, d1, -, -⟩ := box2_cell h4
        exact bodyPost_ret (v := .agg #[.slice (some ⟨g, 0, none⟩) k cp, .int .i64 nx]) (by simp [results, Tryd.results26, go_sem, d0, d1]) rfl ⟨K, _, rfl, .inr ⟨g, cp, rfl, (HD.out.1.grown gr (by omega)).weaken (by omega)⟩, HD.out.2, below_set hbel gr (by omega)⟩
end Go.Proofs.YtbellpalomiokadDoor
/-
  What a store that is written into keeps: its box is no block of its rows; one item more.
-/
namespace Go.Proofs.YtbellpalomiokadDoor
open Go.RowKit
set_option linter.unusedVariables false

/-- a block that holds a row of one type is no box of another -/
theorem row_ne_box {w : World} {base n size g cap p : Nat} {T T' : TypeId} {xs : List Value} {cs : Array Value} (h : w.ownsRow base T size (.slice (some ⟨g, 0, none⟩) n cap) n xs) (hp : w.heap[p]? = some (.cells cs T' (0, 0))) (hT : T ≠ T') : p ≠ g := by
  rintro rfl
  rcases h.2 with h2 | ⟨g', cap', cur, e, hb, hg, rest⟩
  · exact absurd h2 (by simp)
  · simp only [Value.slice.injEq, Option.some.injEq, Addr.mk.injEq] at e
    rw [← e.1.1, hp] at hg
    simp only [Option.some.injEq, Obj.cells.injEq] at hg
    exact hT hg.2.1.symm
theorem HoldsI.copied {w : World} {lo g cp : Nat} {K : List It} (h : HoldsI w lo g cp K) (x : It) : Copied w lo g (K ++ [x]) K K.length :=
  ⟨fun i hi => ⟨by rw [iAt_app_lt hi], h.vals i hi, h.lies i hi⟩, h.apart⟩
/-- as rebase, the box p is written too: no list lies in it -/
theorem Copied.rebase3 {w w' : World} {lo g g' p : Nat} {J K : List It} {k : Nat} {cs : Array Value} (h : Copied w lo g J K k) (hp : w.heap[p]? = some (.cells cs 26 (0, 0))) (hk : ∀ q, q < w.heap.size → q ≠ g → q ≠ p → w'.heap[q]? = w.heap[q]?) (hg : g' = g ∨ w.heap.size ≤ g') : Copied w' lo g' J K k := by
  refine ⟨fun i hi => ?_, h.2⟩
  obtain ⟨h1, h2, h3⟩ := h.1 i hi
  refine ⟨h1, fun hne => ?_, h3⟩
  obtain ⟨q, e, hl, hq, o⟩ := h2 hne
  have hlt := o.lt
  have hqp : p ≠ q := row_ne_box o hp (by decide)
  refine ⟨q, e, hl, by rcases hg with rfl | hg; exact hq; omega, ?_⟩
  exact ownsRow_sameB o (fun j hj => by simp only [Value.ownBlock, Option.some.injEq] at hj; rw [← hj]; exact hk q hlt hq (fun e => hqp e.symm))
end Go.Proofs.YtbellpalomiokadDoor
/-
  The model's l4Assert: a fact asserted in a store that is written into.
-/
namespace Go.Proofs.YtbellpalomiokadDoor
open Go.RowKit
set_option linter.unusedVariables false

theorem ownsRow_up {w : World} {base base' n size g cap : Nat} {T : TypeId} {xs : List Value} (h : w.ownsRow base T size (.slice (some ⟨g, 0, none⟩) n cap) n xs) (hb : base' ≤ g) : w.ownsRow base' T size (.slice (some ⟨g, 0, none⟩) n cap) n xs := by
  refine ⟨h.1, ?_⟩
  rcases h.2 with h2 | ⟨g', cap', cur, e, hb', rest⟩
  · exact absurd h2 (by simp)
  · have e2 := e
    simp only [Value.slice.injEq, Option.some.injEq, Addr.mk.injEq] at e2
    exact .inr ⟨g', cap', cur, e, by rw [← e2.1.1]; exact hb, rest⟩
/-- a store's items, in a block of the call's own or none at all -/
def HV (w : World) (lo n : Nat) (va : Option Addr) (vc : Nat) (K : List It) : Prop := (n = 0 ∧ K = [] ∧ va = none ∧ vc = 0) ∨ ∃ g, va = some ⟨g, 0, none⟩ ∧ HoldsI w lo g vc K
theorem HV.later {w w' : World} {lo n vc : Nat} {va : Option Addr} {K : List It} (h : HV w lo n va vc K) (hb : Below w.heap.size w w') : HV w' lo n va vc K :=
  h.imp id (fun ⟨g, e, o⟩ => ⟨g, e, o.later hb⟩)
theorem gi {w : World} {lo n vc p : Nat} {va : Option Addr} {K : List It} {cs : Array Value} (hv : HV w lo n va vc K) (hK : K.length = n) (hp : w.heap[p]? = some (.cells cs 26 (0, 0))) :
    ∃ g, g < w.heap.size ∧ (∀ x, Copied w lo g (K ++ [x]) K n) ∧ (∀ q, (Value.slice va n vc).ownBlock = some q → q = g ∧ lo ≤ q ∧ q ≠ p) ∧ w.ownsRow 0 38 3 (.slice va n vc) n (rowOf It.cells K) ∧ RdI w va K ∧ (g = p ∨ ∃ cur, w.heap[g]? = some (.cells cur 38 (0, 0))) := by
  rcases hv with ⟨rfl, rfl, rfl, rfl⟩ | ⟨g, rfl, o⟩
  · exact ⟨p, (Array.getElem?_eq_some_iff.1 hp).1, fun x => Copied.zero _ _ _ _ _, fun q e => (by cases e), World.ownsRow_nil _ _ _ _, RdI.nil _ _, .inl rfl⟩
  · subst hK
    refine ⟨g, o.lt, fun x => o.copied x, fun q e => by cases e; exact ⟨rfl, o.low, fun e => row_ne_box o.own hp (by decide) e.symm⟩, o.own, o.rd, .inr ?_⟩
    rcases o.own.2 with h2 | ⟨g', cap', cur, e, hb, hg, rest⟩
    · exact absurd h2 (by simp)
    · simp only [Value.slice.injEq, Option.some.injEq, Addr.mk.injEq] at e
      exact ⟨cur, by rw [e.1.1]; exact hg⟩
theorem sA {W : World} {p f : Nat} {v0 : Value} {nx : Int} {kd : ByteArray} {v1 : Value} (hp : W.heap[p]? = some (.cells #[v0, .int .i64 nx] 26 (0, 0))) (hf : W.heap[f]? = some (.cells #[.string kd, v1] 29 (0, 0))) :
    W.cell? ⟨p, 1, none⟩ = some (.int .i64 nx) ∧ W.cell? ⟨f, 0, none⟩ = some (.string kd) ∧ W.cell? ⟨f, 1, none⟩ = some v1 := ⟨(box2_cell hp).2.1, (box2_cell hf).1, (box2_cell hf).2.1⟩
/-- asserting, plainly: the Id, Next, the items -/
def assP (K : List P4) (nx : Int) (kd : ByteArray) (M : List V3) : Int × Int × List P4 := if 0 < idP K kd M then (idP K kd M, nx, K) else if 40 ≤ K.length ∨ 1000000 ≤ nx then (0, nx, K) else (nx, nx + 1, K ++ [⟨nx, kd, M⟩])

set_option maxRecDepth 100000 in
set_option maxHeartbeats 12800000 in
theorem l4Assert_any (p lo n vc cb : Nat) (va b : Option Addr) (nx : Int) (kd : ByteArray) (K : List It) (M : List V3) (w : World) (hp : w.heap[p]? = some (.cells #[.slice va n vc, .int .i64 nx] 26 (0, 0))) (hv : HV w lo n va vc K) (hKn : K.length = n) (hn : n ≤ 1048576) (hl : ∀ i, i < K.length → (iAt K i).L.length ≤ 1048580) (hq : RdV w b M) (hm : M.length ≤ 1048580) (hlop : lo ≤ p) (hlo : lo ≤ w.heap.size) (hnx : 0 ≤ nx) :
    Calls Tryd.prog 28 #[.pointer (some ⟨p, 0, none⟩), .agg #[.string kd, .slice b M.length cb]] w fun e w' =>
      e = .returned (.int .i64 (assP (K.map It.pl) nx kd M).1) ∧ ∃ va' vc' K', w'.heap[p]? = some (.cells #[.slice va' K'.length vc', .int .i64 (assP (K.map It.pl) nx kd M).2.1] 26 (0, 0)) ∧ HV w' lo K'.length va' vc' K' ∧ K'.map It.pl = (assP (K.map It.pl) nx kd M).2.2 ∧ Below lo w w' := by
  obtain ⟨i0, hi, hz0, hz1, hz2⟩ := info_parts Tryd.info38
  have HKn := hide hKn
  have HL := hide hl
  have HM := hide hm
  have b1 := below_al w (.cells #[.string kd, .slice b M.length cb] 29)
  have hF := box2_new w (.string kd) (.slice b M.length cb) 29
  have hP := box_step hp b1
  have HFp : Hid (w.heap.size ≠ p) := Nat.ne_of_gt (Array.getElem?_eq_some_iff.1 hp).1
  have hv1 := hv.later b1
  have hq1 := hq.below b1
  clear hp hv hq hKn hl hm
  go_enter Tryd.func28, Tryd.ntmps28
  go_wp2_with fail
  generalize w.alloc (.cells #[.string kd, .slice b M.length cb] 29) = w1 at b1 hF hP hv1 hq1 ⊢
  obtain ⟨-, -, -, -, -, hr1, -⟩ := gi hv1 HKn.out hP
  have hr1d : RdI w1.drew va K := hr1.below (Below.refl _ _).drew
  have hq1d : RdV w1.drew b M := hq1.heap rfl
  have S1 : w1.cell? ⟨p, 0, none⟩ = some (.slice va n vc) ∧ w1.cell? ⟨p, 1, none⟩ = some (.int .i64 nx) ∧ w1.cell? ⟨w.heap.size, 0, none⟩ = some (.string kd) ∧ w1.cell? ⟨w.heap.size, 1, none⟩ = some (.slice b M.length cb) := ⟨(box2_cell hP).1, sA hP hF⟩
  refine wp_region_held_drew (S := fun W => W.cell? ⟨p, 0, none⟩ = some (.slice va n vc) ∧ W.cell? ⟨p, 1, none⟩ = some (.int .i64 nx) ∧ W.cell? ⟨w.heap.size, 0, none⟩ = some (.string kd) ∧ W.cell? ⟨w.heap.size, 1, none⟩ = some (.slice b M.length cb)) (by kernel_rfl) S1 (fun hHeld => ?_)
  refine wpAnyH_take (i := 0) (oi := Oper.mk (some 6) _ _ _ _ _) (v := ?v1) rfl (by kernel_rfl) (by kernel_rfl) (by kernel_rfl) (fun _ _ _ h => h) (Or.inl ⟨by rfl, ?y1⟩) hHeld ?r1
  case y1 => (intro W hSW; obtain ⟨q0, q1, q2, q3⟩ := hSW; go_simp; try with_reducible rfl)
  simp only [Act.put, List.setIfInBounds_toArray, List.set_cons_zero, List.set_cons_succ]
  refine wpAnyH_take (i := 1) (oi := Oper.mk (some 7) _ _ _ _ _) (v := ?v2) rfl (by kernel_rfl) (by kernel_rfl) (by kernel_rfl) (fun _ _ _ h => h) (Or.inl ⟨by rfl, ?y2⟩) hHeld ?r2
  case y2 => (intro W hSW; obtain ⟨q0, q1, q2, q3⟩ := hSW; go_simp; try with_reducible rfl)
  simp only [Act.put, List.setIfInBounds_toArray, List.set_cons_zero, List.set_cons_succ]
  refine wpAnyH_take (i := 2) (oi := Oper.mk (some 8) _ _ _ _ _) (v := ?v3) rfl (by kernel_rfl) (by kernel_rfl) (by kernel_rfl) (fun _ _ _ h => h) (Or.inl ⟨by rfl, ?y3⟩) hHeld ?r3
  case y3 => (intro W hSW; obtain ⟨q0, q1, q2, q3⟩ := hSW; go_simp; try with_reducible rfl)
  simp only [Act.put, List.setIfInBounds_toArray, List.set_cons_zero, List.set_cons_succ]
  refine wpAnyH_take (i := 3) (oi := Oper.mk (some 9) _ _ _ _ _) (v := ?v4) rfl (by kernel_rfl) (by kernel_rfl) (by kernel_rfl) (fun _ _ _ h => h) (Or.inl ⟨by rfl, ?y4⟩) hHeld ?r4
  case y4 => (intro W hSW; obtain ⟨q0, q1, q2, q3⟩ := hSW; go_simp; try with_reducible rfl)
  simp only [Act.put, List.setIfInBounds_toArray, List.set_cons_zero, List.set_cons_succ]
  refine wpAnyH_ready (rs := [4]) (by kernel_rfl) (by simp) (AllReadyH.cons (o := Oper.mk (some 10) _ _ _ _ _) rfl (fun Kk hK => ?_) AllReadyH.nil)
  go_simp
  refine (specIdOf_any va b n vc cb nx kd K M _ hr1d hq1d HKn.out (by omega) HL.out HM.out).mono ?_
  rintro e w2 ⟨rfl, b2⟩
  have hb2 : Below w1.heap.size w1 w2 := below_dr b2
  have hP2 := box_step hP hb2
  have hF2 := box_step hF hb2
  refine hK.out _ _ ⟨(box2_cell hP2).1, sA hP2 hF2⟩ (fun hHeld => ?_)
  clear hK Kk
  refine wpAnyH_take (i := 5) (oi := Oper.mk (some 5) _ _ _ _ _) (v := ?v5) rfl (by kernel_rfl) (by kernel_rfl) (by kernel_rfl) (fun _ _ _ h => h) (Or.inl ⟨by rfl, ?y5⟩) hHeld ?r5
  case y5 => (intro W hSW; obtain ⟨q0, q1, q2, q3⟩ := hSW; go_simp; try with_reducible rfl)
  simp only [Act.put, List.setIfInBounds_toArray, List.set_cons_zero, List.set_cons_succ]
  refine wpAnyH_done (by kernel_rfl) ?_ _
  have hv2 := hv1.later hb2
  have hq2 := hq1.below hb2
  have hB2 : Below lo w w2 := (b1.mono hlo).trans (hb2.mono (Nat.le_trans hlo b1.size))
  have hlo2 : lo ≤ w2.heap.size := Nat.le_trans hlo (Nat.le_trans b1.size hb2.size)
  clear hHeld b1 hF hP hv1 hq1 hr1 hr1d hq1d S1 b2 hb2
  obtain ⟨o2, o21, -, -⟩ := box2_cell hP2
  have HV2 := hide hv2
  have HBd := hide hB2
  have HPP := hide hP2
  obtain ⟨r, hr⟩ : ∃ r, idP (K.map It.pl) kd M = r := ⟨_, rfl⟩
  have HR := hide hr
  rw [hr]
  clear hr
  by_cases h0 : 0 < r
  · have HA : Hid (assP (K.map It.pl) nx kd M = (r, nx, K.map It.pl)) := by unfold Hid assP; rw [HR.out, if_pos h0]
    clear hv2 hB2 hP2 hF2
    go_wp2
    go_ret
    exact ⟨by rw [HA.out]; rfl, va, vc, K, by rw [HA.out, HKn.out]; exact HPP.out, by rw [HKn.out]; exact HV2.out, by rw [HA.out], HBd.out⟩
  · by_cases h1 : 40 ≤ n
    · have HA : Hid (assP (K.map It.pl) nx kd M = (0, nx, K.map It.pl)) := by unfold Hid assP; rw [HR.out, if_neg h0, if_pos (Or.inl (by rw [List.length_map, HKn.out]; exact h1))]
      have h1' : (40 : Int) ≤ (n : Int) := by omega
      clear hv2 hB2 hP2 hF2
      go_wp2
      go_ret
      exact ⟨by rw [HA.out]; rfl, va, vc, K, by rw [HA.out, HKn.out]; exact HPP.out, by rw [HKn.out]; exact HV2.out, by rw [HA.out], HBd.out⟩
    · have h1' : ¬ ((40 : Int) ≤ (n : Int)) := by omega
      by_cases h2 : 1000000 ≤ nx
      · have HA : Hid (assP (K.map It.pl) nx kd M = (0, nx, K.map It.pl)) := by unfold Hid assP; rw [HR.out, if_neg h0, if_pos (Or.inr h2)]
        clear hv2 hB2 hP2 hF2
        go_wp2
        go_ret
        exact ⟨by rw [HA.out]; rfl, va, vc, K, by rw [HA.out, HKn.out]; exact HPP.out, by rw [HKn.out]; exact HV2.out, by rw [HA.out], HBd.out⟩
      · have HA : Hid (assP (K.map It.pl) nx kd M = (nx, nx + 1, K.map It.pl ++ [⟨nx, kd, M⟩])) := by unfold Hid assP; rw [HR.out, if_neg h0, if_neg (by rw [List.length_map, HKn.out]; omega)]
        obtain ⟨g, hgs, hcop, hob, hown2, -, hgT⟩ := gi hv2 HKn.out hP2
        have HCop := hide hcop
        have HOb := hide hob
        have HFg : Hid (w.heap.size ≠ g) := by
          rintro e
          rcases hgT with e2 | ⟨cur, e2⟩
          · exact HFp.out (e.trans e2)
          · rw [← e, hF2] at e2
            simp only [Option.some.injEq, Obj.cells.injEq] at e2
            exact absurd e2.2.1 (by decide)
        have hq2d : RdV w2.drew b M := hq2.heap rfl
        have S2 := sA hP2 hF2
        clear hcop hob hgT hv2 HV2 HBd HPP
        go_wp2_with fail
        refine wp_region_held_drew (S := fun W => W.cell? ⟨p, 1, none⟩ = some (.int .i64 nx) ∧ W.cell? ⟨w.heap.size, 0, none⟩ = some (.string kd) ∧ W.cell? ⟨w.heap.size, 1, none⟩ = some (.slice b M.length cb)) (by kernel_rfl) S2 (fun hHeld => ?_)
        refine wpAnyH_take (i := 0) (oi := Oper.mk (some 27) _ _ _ _ _) (v := ?v6) rfl (by kernel_rfl) (by kernel_rfl) (by kernel_rfl) (fun _ _ _ h => h) (Or.inl ⟨by rfl, ?y6⟩) hHeld ?r6
        case y6 => (intro W hSW; obtain ⟨q0, q1, q2⟩ := hSW; go_simp; try with_reducible rfl)
        simp only [Act.put, List.setIfInBounds_toArray, List.set_cons_zero, List.set_cons_succ]
        refine wpAnyH_take (i := 1) (oi := Oper.mk (some 28) _ _ _ _ _) (v := ?v7) rfl (by kernel_rfl) (by kernel_rfl) (by kernel_rfl) (fun _ _ _ h => h) (Or.inl ⟨by rfl, ?y7⟩) hHeld ?r7
        case y7 => (intro W hSW; obtain ⟨q0, q1, q2⟩ := hSW; go_simp; try with_reducible rfl)
        simp only [Act.put, List.setIfInBounds_toArray, List.set_cons_zero, List.set_cons_succ]
        refine wpAnyH_take (i := 2) (oi := Oper.mk (some 29) _ _ _ _ _) (v := ?v8) rfl (by kernel_rfl) (by kernel_rfl) (by kernel_rfl) (fun _ _ _ h => h) (Or.inl ⟨by rfl, ?y8⟩) hHeld ?r8
        case y8 => (intro W hSW; obtain ⟨q0, q1, q2⟩ := hSW; go_simp; try with_reducible rfl)
        simp only [Act.put, List.setIfInBounds_toArray, List.set_cons_zero, List.set_cons_succ]
        refine wpAnyH_take (i := 3) (oi := Oper.mk (some 30) _ _ _ _ _) (v := ?v9) rfl (by kernel_rfl) (by kernel_rfl) (by kernel_rfl) (fun _ _ _ h => h) (Or.inl ⟨by rfl, ?y9⟩) hHeld ?r9
        case y9 => (intro W hSW; obtain ⟨q0, q1, q2⟩ := hSW; go_simp; try with_reducible rfl)
        simp only [Act.put, List.setIfInBounds_toArray, List.set_cons_zero, List.set_cons_succ]
        refine wpAnyH_take (i := 5) (oi := Oper.mk (some 32) _ _ _ _ _) (v := ?v10) rfl (by kernel_rfl) (by kernel_rfl) (by kernel_rfl) (fun _ _ _ h => h) (Or.inl ⟨by rfl, ?y10⟩) hHeld ?r10
        case y10 => (intro W hSW; obtain ⟨q0, q1, q2⟩ := hSW; go_simp; try with_reducible rfl)
        simp only [Act.put, List.setIfInBounds_toArray, List.set_cons_zero, List.set_cons_succ]
        refine wpAnyH_take (i := 6) (oi := Oper.mk (some 33) _ _ _ _ _) (v := ?v11) rfl (by kernel_rfl) (by kernel_rfl) (by kernel_rfl) (fun _ _ _ h => h) (Or.inl ⟨by rfl, ?y11⟩) hHeld ?r11
        case y11 => (intro W hSW; obtain ⟨q0, q1, q2⟩ := hSW; go_simp; try with_reducible rfl)
        simp only [Act.put, List.setIfInBounds_toArray, List.set_cons_zero, List.set_cons_succ]
        refine wpAnyH_take (i := 7) (oi := Oper.mk (some 34) _ _ _ _ _) (v := ?v12) rfl (by kernel_rfl) (by kernel_rfl) (by kernel_rfl) (fun _ _ _ h => h) (Or.inl ⟨by rfl, ?y12⟩) hHeld ?r12
        case y12 => (intro W hSW; obtain ⟨q0, q1, q2⟩ := hSW; go_simp; try with_reducible rfl)
        simp only [Act.put, List.setIfInBounds_toArray, List.set_cons_zero, List.set_cons_succ]
        refine wpAnyH_take (i := 8) (oi := Oper.mk (some 35) _ _ _ _ _) (v := ?v13) rfl (by kernel_rfl) (by kernel_rfl) (by kernel_rfl) (fun _ _ _ h => h) (Or.inl ⟨by rfl, ?y13⟩) hHeld ?r13
        case y13 => (intro W hSW; obtain ⟨q0, q1, q2⟩ := hSW; go_simp; try with_reducible rfl)
        simp only [Act.put, List.setIfInBounds_toArray, List.set_cons_zero, List.set_cons_succ]
        refine wpAnyH_take (i := 9) (oi := Oper.mk (some 36) _ _ _ _ _) (v := ?v14) rfl (by kernel_rfl) (by kernel_rfl) (by kernel_rfl) (fun _ _ _ h => h) (Or.inl ⟨by rfl, ?y14⟩) hHeld ?r14
        case y14 => (intro W hSW; obtain ⟨q0, q1, q2⟩ := hSW; go_simp; try with_reducible rfl)
        simp only [Act.put, List.setIfInBounds_toArray, List.set_cons_zero, List.set_cons_succ]
        refine wpAnyH_ready (rs := [4, 10]) (by kernel_rfl) (by simp) (AllReadyH.cons (o := Oper.mk (some 31) _ _ _ _ _) rfl (fun Kk hK => ?_) (AllReadyH.cons (o := Oper.mk (some 37) _ _ _ _ _) rfl (fun Kk hK => ?_) AllReadyH.nil))
        · go_simp
          refine hK.out _ _ S2 (fun hHeld => ?_)
          clear hK Kk
          refine wpAnyH_ready (rs := [10]) (by kernel_rfl) (by simp) (AllReadyH.cons (o := Oper.mk (some 37) _ _ _ _ _) rfl (fun Kk hK => ?_) AllReadyH.nil)
          go_simp
          refine (l3Copy_any kd b cb M _ hq2d HM.out).mono ?_
          rintro e w3 ⟨a', c', rfl, hnew, b3⟩
          have hbr3 : Below w2.heap.size w2 w3 := below_dr b3
          have hP3 := box_step hP2 hbr3
          have hF3 := box_step hF2 hbr3
          have S3 := sA hP3 hF3
          obtain ⟨o3, -, -, -⟩ := box2_cell hP3
          refine hK.out _ _ S3 (fun hHeld => ?_)
          clear hK Kk
          refine wpAnyH_take (i := 11) (oi := Oper.mk (some 38) _ _ _ _ _) (v := ?v15) rfl (by kernel_rfl) (by kernel_rfl) (by kernel_rfl) (fun _ _ _ h => h) (Or.inl ⟨by rfl, ?y15⟩) hHeld ?r15
          case y15 => (intro W hSW; obtain ⟨q0, q1, q2⟩ := hSW; go_simp; try with_reducible rfl)
          simp only [Act.put, List.setIfInBounds_toArray, List.set_cons_zero, List.set_cons_succ]
          refine wpAnyH_ready (rs := [12]) (by kernel_rfl) (by simp) (AllReadyH.cons (o := Oper.mk (some 39) _ _ _ _ _) rfl (fun Kk hK => ?_) AllReadyH.nil)
          go_simp
          have ba4 := below_al w3 (.cells #[.int .i64 nx, .string kd, .slice a' M.length c'] 38)
          have hbr4 := hbr3.trans (ba4.mono hbr3.size)
          have hnew4 : NewV _ w2.heap.size a' c' M := hnew.later ba4
          have HSrc := hide (srcI w3 ⟨nx, kd, a', c', M⟩)
          have HO4 := hide (ownsRow_below hown2 hbr4)
          have hP4 := box_step hP2 hbr4
          have hF4 := box_step hF2 hbr4
          have S4 := sA hP4 hF4
          obtain ⟨o4, -, -, -⟩ := box2_cell hP4
          have hB4 : Below lo w _ := hB2.trans (hbr4.mono hlo2)
          refine hK.out _ _ S4 (fun hHeld => ?_)
          clear hK Kk
          refine wpAnyH_ready (rs := [13]) (by kernel_rfl) (by simp) (AllReadyH.cons (o := Oper.mk (some 40) _ _ _ _ _) rfl (fun Kk hK => ?_) AllReadyH.nil)
          refine step_append_lies _ rfl (.tmp 31) (.tmp 39) 24 rfl 0 38 i0 (.agg #[.int .i64 0, .string ⟨#[]⟩, .slice none 0 0]) 3 48 Tryd.underlying24 hi hz0 hz1 hz2 rfl (by omega) (.slice va n vc) n (rowOf It.cells K) rfl HO4.out ⟨w3.heap.size, 0, none⟩ 1 1 (It.cells ⟨nx, kd, a', c', M⟩) ?hx rfl HSrc.out (oneI _) (by omega) (by unfold maxLen; omega) (by omega) (Nat.zero_le _) _ rfl ?_
          case hx => simp [Act.eval]
          intro g5 c5 w5 ho5 hg5 hat5 hlt5
          rw [rowI_app] at ho5
          have hlo4 : lo ≤ (w3.alloc (.cells #[.int .i64 nx, .string kd, .slice a' M.length c'] 38)).heap.size := Nat.le_trans hlo2 hbr4.size
          have hB5 : Below lo w w5 := hB4.grown hg5 hlo4 (fun q e => (HOb.out q e).2.1)
          have hP5 := (hg5.block p (Array.getElem?_eq_some_iff.1 hP4).1 (fun e => (HOb.out p e.symm).2.2 rfl)).trans hP4
          have hF5 := (hg5.block w.heap.size (Array.getElem?_eq_some_iff.1 hF4).1 (fun e => by have := (HOb.out _ e.symm).2.1; have := (HOb.out _ e.symm).1; exact HFg.out this)).trans hF4
          have S5 := sA hP5 hF5
          obtain ⟨o5, o51, of0, of1⟩ := box2_cell hP5
          have hg5l : lo ≤ g5 := by
            rcases hat5 with e | e
            · exact (HOb.out g5 e).2.1
            · rw [e]; exact hlo4
          have hg5p : g5 ≠ p := by
            rcases hat5 with e | e
            · exact (HOb.out g5 e).2.2
            · rw [e]; exact Nat.ne_of_gt (Array.getElem?_eq_some_iff.1 hP4).1
          have HC4 := hide ((HCop.out ⟨nx, kd, a', c', M⟩).more (K' := K ++ [⟨nx, kd, a', c', M⟩]) (x := ⟨nx, kd, a', c', M⟩) hbr4 (World.grownBy.refl _ _) (fun i hi => iAt_app_lt (by rw [HKn.out]; exact hi)) (by have e := iAt_app_eq K ⟨nx, kd, a', c', M⟩; rw [HKn.out] at e; exact e) (by have e := iAt_app_eq K ⟨nx, kd, a', c', M⟩; rw [HKn.out] at e; rw [e]) (fun hne => by obtain ⟨q, e, h1, o⟩ := hnew4.own hne; exact ⟨q, e, h1, o⟩) hnew4.2 hlo2 hgs)
          have st := box2_set0 hP5 (.slice (some ⟨g5, 0, none⟩) (n + 1) c5)
          have HC6 := hide (HC4.out.rebase3 (w' := w5.setCell ⟨p, 0, none⟩ (.slice (some ⟨g5, 0, none⟩) (n + 1) c5)) (g' := g5) hP4 (fun q hq hne hnp => (st.2.block q (Nat.lt_of_lt_of_le hq hg5.size) (fun e => hnp (Option.some.inj e))).trans (hg5.block q hq (fun e => hne (HOb.out q e.symm).1))) (by rcases hat5 with e | e; exact .inl (HOb.out g5 e).1; exact .inr (Nat.le_of_eq e.symm)))
          have HO6 := hide (ownsRow_up (ownsRow_sameB (w' := w5.setCell ⟨p, 0, none⟩ (.slice (some ⟨g5, 0, none⟩) (n + 1) c5)) ho5 (fun q e => by have e1 : g5 = q := Option.some.inj e; subst e1; exact st.2.block g5 hlt5 (fun e => hg5p (Option.some.inj e)))) hg5l)
          have hB6 := hB5.grown st.2 (Nat.le_trans hlo4 hg5.size) (fun q e => by have e2 : p = q := Option.some.inj e; rw [← e2]; exact hlop)
          have hF6 := box_gr hF5 st.2 HFp.out
          have hP6 := st.1
          have S6 := sA hP6 hF6
          have HLen : Hid ((K ++ [(⟨nx, kd, a', c', M⟩ : It)]).length = n + 1) := by unfold Hid; rw [List.length_append, HKn.out]; rfl
          refine hK.out _ _ S5 (fun hHeld => ?_)
          clear hK Kk
          refine wpAnyH_take (i := 14) (oi := Oper.mk (some 41) _ _ _ _ _) (v := ?v16) rfl (by kernel_rfl) (by kernel_rfl) (by kernel_rfl) (fun _ _ _ h => h) (Or.inl ⟨by rfl, ?y16⟩) hHeld ?r16
          case y16 => (intro W hSW; obtain ⟨q0, q1, q2⟩ := hSW; go_simp; try with_reducible rfl)
          simp only [Act.put, List.setIfInBounds_toArray, List.set_cons_zero, List.set_cons_succ]
          refine wpAnyH_take (i := 15) (oi := Oper.mk (some 42) _ _ _ _ _) (v := ?v17) rfl (by kernel_rfl) (by kernel_rfl) (by kernel_rfl) (fun _ _ _ h => h) (Or.inl ⟨by rfl, ?y17⟩) hHeld ?r17
          case y17 => (intro W hSW; obtain ⟨q0, q1, q2⟩ := hSW; go_simp; try with_reducible rfl)
          simp only [Act.put, List.setIfInBounds_toArray, List.set_cons_zero, List.set_cons_succ]
          refine wpAnyH_ready (rs := [16]) (by kernel_rfl) (by simp) (AllReadyH.cons (o := Oper.mk none _ _ _ _ _) rfl (fun Kk hK => ?_) AllReadyH.nil)
          go_simp
          refine hK.out _ _ S6 (fun hHeld => ?_)
          clear hK Kk
          refine wpAnyH_done (by kernel_rfl) ?_ _
          have st2 := box2_set1 hP6 (.int .i64 (nx + 1))
          have HP7 := hide st2.1
          have HB7 := hide (hB6.grown st2.2 (Nat.le_trans (Nat.le_trans hlo4 hg5.size) st.2.size) (fun q e => by have e2 : p = q := Option.some.inj e; rw [← e2]; exact hlop))
          have HC7 := hide (HC6.out.rebase3 (w' := (w5.setCell ⟨p, 0, none⟩ (.slice (some ⟨g5, 0, none⟩) (n + 1) c5)).setCell ⟨p, 1, none⟩ (.int .i64 (nx + 1))) (g' := g5) hP6 (fun q hq hne hnp => st2.2.block q hq (fun e => hnp (Option.some.inj e))) (.inl rfl))
          have HO7 := hide (ownsRow_sameB (w' := (w5.setCell ⟨p, 0, none⟩ (.slice (some ⟨g5, 0, none⟩) (n + 1) c5)).setCell ⟨p, 1, none⟩ (.int .i64 (nx + 1))) HO6.out (fun q e => by have e1 : g5 = q := Option.some.inj e; subst e1; exact st2.2.block g5 (Nat.lt_of_lt_of_le hlt5 st.2.size) (fun e => hg5p (Option.some.inj e))))
          obtain ⟨p0, p1, pf0, pf1⟩ := box2_cell hP6
          obtain ⟨m0, m1, -, -⟩ := box2_cell HP7.out
          have HD := hide (Copied.done (cp := c5) (by rw [HLen.out]; exact HC7.out) rfl hg5l (by rw [HLen.out]; exact HO7.out))
          clear S2 S3 S4 S5 S6 st st2 o5 o51 of0 of1 hHeld o4 hP5 hF5 hP4 hF4 hP3 hF3 ho5 hg5 HO4 HSrc hnew4 hB4 hbr4 ba4 o3 hbr3 hnew b3 HC4 HC6 HC7 HCop HO6 HO7 o2 hB5 hB6 hF6 hP2 hF2
          go_wp2
          go_ret
          exact ⟨by rw [HA.out]; rfl, some ⟨g5, 0, none⟩, c5, K ++ [⟨nx, kd, a', c', M⟩], by rw [HA.out, HLen.out]; exact HP7.out, .inr ⟨g5, rfl, HD.out.1⟩, by rw [HA.out, List.map_append]; rfl, HB7.out⟩
        · go_simp
          refine (l3Copy_any kd b cb M _ hq2d HM.out).mono ?_
          rintro e w3 ⟨a', c', rfl, hnew, b3⟩
          have hbr3 : Below w2.heap.size w2 w3 := below_dr b3
          have hP3 := box_step hP2 hbr3
          have hF3 := box_step hF2 hbr3
          have S3 := sA hP3 hF3
          obtain ⟨o3, -, -, -⟩ := box2_cell hP3
          refine hK.out _ _ S3 (fun hHeld => ?_)
          clear hK Kk
          refine wpAnyH_take (i := 11) (oi := Oper.mk (some 38) _ _ _ _ _) (v := ?v18) rfl (by kernel_rfl) (by kernel_rfl) (by kernel_rfl) (fun _ _ _ h => h) (Or.inl ⟨by rfl, ?y18⟩) hHeld ?r18
          case y18 => (intro W hSW; obtain ⟨q0, q1, q2⟩ := hSW; go_simp; try with_reducible rfl)
          simp only [Act.put, List.setIfInBounds_toArray, List.set_cons_zero, List.set_cons_succ]
          refine wpAnyH_ready (rs := [4, 12]) (by kernel_rfl) (by simp) (AllReadyH.cons (o := Oper.mk (some 31) _ _ _ _ _) rfl (fun Kk hK => ?_) (AllReadyH.cons (o := Oper.mk (some 39) _ _ _ _ _) rfl (fun Kk hK => ?_) AllReadyH.nil))
          · go_simp
            refine hK.out _ _ S3 (fun hHeld => ?_)
            clear hK Kk
            refine wpAnyH_ready (rs := [12]) (by kernel_rfl) (by simp) (AllReadyH.cons (o := Oper.mk (some 39) _ _ _ _ _) rfl (fun Kk hK => ?_) AllReadyH.nil)
            go_simp
            have ba4 := below_al w3 (.cells #[.int .i64 nx, .string kd, .slice a' M.length c'] 38)
            have hbr4 := hbr3.trans (ba4.mono hbr3.size)
            have hnew4 : NewV _ w2.heap.size a' c' M := hnew.later ba4
            have HSrc := hide (srcI w3 ⟨nx, kd, a', c', M⟩)
            have HO4 := hide (ownsRow_below hown2 hbr4)
            have hP4 := box_step hP2 hbr4
            have hF4 := box_step hF2 hbr4
            have S4 := sA hP4 hF4
            obtain ⟨o4, -, -, -⟩ := box2_cell hP4
            have hB4 : Below lo w _ := hB2.trans (hbr4.mono hlo2)
            refine hK.out _ _ S4 (fun hHeld => ?_)
            clear hK Kk
            refine wpAnyH_ready (rs := [13]) (by kernel_rfl) (by simp) (AllReadyH.cons (o := Oper.mk (some 40) _ _ _ _ _) rfl (fun Kk hK => ?_) AllReadyH.nil)
            refine step_append_lies _ rfl (.tmp 31) (.tmp 39) 24 rfl 0 38 i0 (.agg #[.int .i64 0, .string ⟨#[]⟩, .slice none 0 0]) 3 48 Tryd.underlying24 hi hz0 hz1 hz2 rfl (by omega) (.slice va n vc) n (rowOf It.cells K) rfl HO4.out ⟨w3.heap.size, 0, none⟩ 1 1 (It.cells ⟨nx, kd, a', c', M⟩) ?hx rfl HSrc.out (oneI _) (by omega) (by unfold maxLen; omega) (by omega) (Nat.zero_le _) _ rfl ?_
            case hx => simp [Act.eval]
            intro g5 c5 w5 ho5 hg5 hat5 hlt5
            rw [rowI_app] at ho5
            have hlo4 : lo ≤ (w3.alloc (.cells #[.int .i64 nx, .string kd, .slice a' M.length c'] 38)).heap.size := Nat.le_trans hlo2 hbr4.size
            have hB5 : Below lo w w5 := hB4.grown hg5 hlo4 (fun q e => (HOb.out q e).2.1)
            have hP5 := (hg5.block p (Array.getElem?_eq_some_iff.1 hP4).1 (fun e => (HOb.out p e.symm).2.2 rfl)).trans hP4
            have hF5 := (hg5.block w.heap.size (Array.getElem?_eq_some_iff.1 hF4).1 (fun e => by have := (HOb.out _ e.symm).2.1; have := (HOb.out _ e.symm).1; exact HFg.out this)).trans hF4
            have S5 := sA hP5 hF5
            obtain ⟨o5, o51, of0, of1⟩ := box2_cell hP5
            have hg5l : lo ≤ g5 := by
              rcases hat5 with e | e
              · exact (HOb.out g5 e).2.1
              · rw [e]; exact hlo4
            have hg5p : g5 ≠ p := by
              rcases hat5 with e | e
              · exact (HOb.out g5 e).2.2
              · rw [e]; exact Nat.ne_of_gt (Array.getElem?_eq_some_iff.1 hP4).1
            have HC4 := hide ((HCop.out ⟨nx, kd, a', c', M⟩).more (K' := K ++ [⟨nx, kd, a', c', M⟩]) (x := ⟨nx, kd, a', c', M⟩) hbr4 (World.grownBy.refl _ _) (fun i hi => iAt_app_lt (by rw [HKn.out]; exact hi)) (by have e := iAt_app_eq K ⟨nx, kd, a', c', M⟩; rw [HKn.out] at e; exact e) (by have e := iAt_app_eq K ⟨nx, kd, a', c', M⟩; rw [HKn.out] at e; rw [e]) (fun hne => by obtain ⟨q, e, h1, o⟩ := hnew4.own hne; exact ⟨q, e, h1, o⟩) hnew4.2 hlo2 hgs)
            have st := box2_set0 hP5 (.slice (some ⟨g5, 0, none⟩) (n + 1) c5)
            have HC6 := hide (HC4.out.rebase3 (w' := w5.setCell ⟨p, 0, none⟩ (.slice (some ⟨g5, 0, none⟩) (n + 1) c5)) (g' := g5) hP4 (fun q hq hne hnp => (st.2.block q (Nat.lt_of_lt_of_le hq hg5.size) (fun e => hnp (Option.some.inj e))).trans (hg5.block q hq (fun e => hne (HOb.out q e.symm).1))) (by rcases hat5 with e | e; exact .inl (HOb.out g5 e).1; exact .inr (Nat.le_of_eq e.symm)))
            have HO6 := hide (ownsRow_up (ownsRow_sameB (w' := w5.setCell ⟨p, 0, none⟩ (.slice (some ⟨g5, 0, none⟩) (n + 1) c5)) ho5 (fun q e => by have e1 : g5 = q := Option.some.inj e; subst e1; exact st.2.block g5 hlt5 (fun e => hg5p (Option.some.inj e)))) hg5l)
            have hB6 := hB5.grown st.2 (Nat.le_trans hlo4 hg5.size) (fun q e => by have e2 : p = q := Option.some.inj e; rw [← e2]; exact hlop)
            have hF6 := box_gr hF5 st.2 HFp.out
            have hP6 := st.1
            have S6 := sA hP6 hF6
            have HLen : Hid ((K ++ [(⟨nx, kd, a', c', M⟩ : It)]).length = n + 1) := by unfold Hid; rw [List.length_append, HKn.out]; rfl
            refine hK.out _ _ S5 (fun hHeld => ?_)
            clear hK Kk
            refine wpAnyH_take (i := 14) (oi := Oper.mk (some 41) _ _ _ _ _) (v := ?v19) rfl (by kernel_rfl) (by kernel_rfl) (by kernel_rfl) (fun _ _ _ h => h) (Or.inl ⟨by rfl, ?y19⟩) hHeld ?r19
            case y19 => (intro W hSW; obtain ⟨q0, q1, q2⟩ := hSW; go_simp; try with_reducible rfl)
            simp only [Act.put, List.setIfInBounds_toArray, List.set_cons_zero, List.set_cons_succ]
            refine wpAnyH_take (i := 15) (oi := Oper.mk (some 42) _ _ _ _ _) (v := ?v20) rfl (by kernel_rfl) (by kernel_rfl) (by kernel_rfl) (fun _ _ _ h => h) (Or.inl ⟨by rfl, ?y20⟩) hHeld ?r20
            case y20 => (intro W hSW; obtain ⟨q0, q1, q2⟩ := hSW; go_simp; try with_reducible rfl)
            simp only [Act.put, List.setIfInBounds_toArray, List.set_cons_zero, List.set_cons_succ]
            refine wpAnyH_ready (rs := [16]) (by kernel_rfl) (by simp) (AllReadyH.cons (o := Oper.mk none _ _ _ _ _) rfl (fun Kk hK => ?_) AllReadyH.nil)
            go_simp
            refine hK.out _ _ S6 (fun hHeld => ?_)
            clear hK Kk
            refine wpAnyH_done (by kernel_rfl) ?_ _
            have st2 := box2_set1 hP6 (.int .i64 (nx + 1))
            have HP7 := hide st2.1
            have HB7 := hide (hB6.grown st2.2 (Nat.le_trans (Nat.le_trans hlo4 hg5.size) st.2.size) (fun q e => by have e2 : p = q := Option.some.inj e; rw [← e2]; exact hlop))
            have HC7 := hide (HC6.out.rebase3 (w' := (w5.setCell ⟨p, 0, none⟩ (.slice (some ⟨g5, 0, none⟩) (n + 1) c5)).setCell ⟨p, 1, none⟩ (.int .i64 (nx + 1))) (g' := g5) hP6 (fun q hq hne hnp => st2.2.block q hq (fun e => hnp (Option.some.inj e))) (.inl rfl))
            have HO7 := hide (ownsRow_sameB (w' := (w5.setCell ⟨p, 0, none⟩ (.slice (some ⟨g5, 0, none⟩) (n + 1) c5)).setCell ⟨p, 1, none⟩ (.int .i64 (nx + 1))) HO6.out (fun q e => by have e1 : g5 = q := Option.some.inj e; subst e1; exact st2.2.block g5 (Nat.lt_of_lt_of_le hlt5 st.2.size) (fun e => hg5p (Option.some.inj e))))
            obtain ⟨p0, p1, pf0, pf1⟩ := box2_cell hP6
            obtain ⟨m0, m1, -, -⟩ := box2_cell HP7.out
            have HD := hide (Copied.done (cp := c5) (by rw [HLen.out]; exact HC7.out) rfl hg5l (by rw [HLen.out]; exact HO7.out))
            clear S2 S3 S4 S5 S6 st st2 o5 o51 of0 of1 hHeld o4 hP5 hF5 hP4 hF4 hP3 hF3 ho5 hg5 HO4 HSrc hnew4 hB4 hbr4 ba4 o3 hbr3 hnew b3 HC4 HC6 HC7 HCop HO6 HO7 o2 hB5 hB6 hF6 hP2 hF2
            go_wp2
            go_ret
            exact ⟨by rw [HA.out]; rfl, some ⟨g5, 0, none⟩, c5, K ++ [⟨nx, kd, a', c', M⟩], by rw [HA.out, HLen.out]; exact HP7.out, .inr ⟨g5, rfl, HD.out.1⟩, by rw [HA.out, List.map_append]; rfl, HB7.out⟩
          · go_simp
            have ba4 := below_al w3 (.cells #[.int .i64 nx, .string kd, .slice a' M.length c'] 38)
            have hbr4 := hbr3.trans (ba4.mono hbr3.size)
            have hnew4 : NewV _ w2.heap.size a' c' M := hnew.later ba4
            have HSrc := hide (srcI w3 ⟨nx, kd, a', c', M⟩)
            have HO4 := hide (ownsRow_below hown2 hbr4)
            have hP4 := box_step hP2 hbr4
            have hF4 := box_step hF2 hbr4
            have S4 := sA hP4 hF4
            obtain ⟨o4, -, -, -⟩ := box2_cell hP4
            have hB4 : Below lo w _ := hB2.trans (hbr4.mono hlo2)
            refine hK.out _ _ S4 (fun hHeld => ?_)
            clear hK Kk
            refine wpAnyH_ready (rs := [4]) (by kernel_rfl) (by simp) (AllReadyH.cons (o := Oper.mk (some 31) _ _ _ _ _) rfl (fun Kk hK => ?_) AllReadyH.nil)
            go_simp
            refine hK.out _ _ S4 (fun hHeld => ?_)
            clear hK Kk
            refine wpAnyH_ready (rs := [13]) (by kernel_rfl) (by simp) (AllReadyH.cons (o := Oper.mk (some 40) _ _ _ _ _) rfl (fun Kk hK => ?_) AllReadyH.nil)
            refine step_append_lies _ rfl (.tmp 31) (.tmp 39) 24 rfl 0 38 i0 (.agg #[.int .i64 0, .string ⟨#[]⟩, .slice none 0 0]) 3 48 Tryd.underlying24 hi hz0 hz1 hz2 rfl (by omega) (.slice va n vc) n (rowOf It.cells K) rfl HO4.out ⟨w3.heap.size, 0, none⟩ 1 1 (It.cells ⟨nx, kd, a', c', M⟩) ?hx rfl HSrc.out (oneI _) (by omega) (by unfold maxLen; omega) (by omega) (Nat.zero_le _) _ rfl ?_
            case hx => simp [Act.eval]
            intro g5 c5 w5 ho5 hg5 hat5 hlt5
            rw [rowI_app] at ho5
            have hlo4 : lo ≤ (w3.alloc (.cells #[.int .i64 nx, .string kd, .slice a' M.length c'] 38)).heap.size := Nat.le_trans hlo2 hbr4.size
            have hB5 : Below lo w w5 := hB4.grown hg5 hlo4 (fun q e => (HOb.out q e).2.1)
            have hP5 := (hg5.block p (Array.getElem?_eq_some_iff.1 hP4).1 (fun e => (HOb.out p e.symm).2.2 rfl)).trans hP4
            have hF5 := (hg5.block w.heap.size (Array.getElem?_eq_some_iff.1 hF4).1 (fun e => by have := (HOb.out _ e.symm).2.1; have := (HOb.out _ e.symm).1; exact HFg.out this)).trans hF4
            have S5 := sA hP5 hF5
            obtain ⟨o5, o51, of0, of1⟩ := box2_cell hP5
            have hg5l : lo ≤ g5 := by
              rcases hat5 with e | e
              · exact (HOb.out g5 e).2.1
              · rw [e]; exact hlo4
            have hg5p : g5 ≠ p := by
              rcases hat5 with e | e
              · exact (HOb.out g5 e).2.2
              · rw [e]; exact Nat.ne_of_gt (Array.getElem?_eq_some_iff.1 hP4).1
            have HC4 := hide ((HCop.out ⟨nx, kd, a', c', M⟩).more (K' := K ++ [⟨nx, kd, a', c', M⟩]) (x := ⟨nx, kd, a', c', M⟩) hbr4 (World.grownBy.refl _ _) (fun i hi => iAt_app_lt (by rw [HKn.out]; exact hi)) (by have e := iAt_app_eq K ⟨nx, kd, a', c', M⟩; rw [HKn.out] at e; exact e) (by have e := iAt_app_eq K ⟨nx, kd, a', c', M⟩; rw [HKn.out] at e; rw [e]) (fun hne => by obtain ⟨q, e, h1, o⟩ := hnew4.own hne; exact ⟨q, e, h1, o⟩) hnew4.2 hlo2 hgs)
            have st := box2_set0 hP5 (.slice (some ⟨g5, 0, none⟩) (n + 1) c5)
            have HC6 := hide (HC4.out.rebase3 (w' := w5.setCell ⟨p, 0, none⟩ (.slice (some ⟨g5, 0, none⟩) (n + 1) c5)) (g' := g5) hP4 (fun q hq hne hnp => (st.2.block q (Nat.lt_of_lt_of_le hq hg5.size) (fun e => hnp (Option.some.inj e))).trans (hg5.block q hq (fun e => hne (HOb.out q e.symm).1))) (by rcases hat5 with e | e; exact .inl (HOb.out g5 e).1; exact .inr (Nat.le_of_eq e.symm)))
            have HO6 := hide (ownsRow_up (ownsRow_sameB (w' := w5.setCell ⟨p, 0, none⟩ (.slice (some ⟨g5, 0, none⟩) (n + 1) c5)) ho5 (fun q e => by have e1 : g5 = q := Option.some.inj e; subst e1; exact st.2.block g5 hlt5 (fun e => hg5p (Option.some.inj e)))) hg5l)
            have hB6 := hB5.grown st.2 (Nat.le_trans hlo4 hg5.size) (fun q e => by have e2 : p = q := Option.some.inj e; rw [← e2]; exact hlop)
            have hF6 := box_gr hF5 st.2 HFp.out
            have hP6 := st.1
            have S6 := sA hP6 hF6
            have HLen : Hid ((K ++ [(⟨nx, kd, a', c', M⟩ : It)]).length = n + 1) := by unfold Hid; rw [List.length_append, HKn.out]; rfl
            refine hK.out _ _ S5 (fun hHeld => ?_)
            clear hK Kk
            refine wpAnyH_take (i := 14) (oi := Oper.mk (some 41) _ _ _ _ _) (v := ?v21) rfl (by kernel_rfl) (by kernel_rfl) (by kernel_rfl) (fun _ _ _ h => h) (Or.inl ⟨by rfl, ?y21⟩) hHeld ?r21
            case y21 => (intro W hSW; obtain ⟨q0, q1, q2⟩ := hSW; go_simp; try with_reducible rfl)
            simp only [Act.put, List.setIfInBounds_toArray, List.set_cons_zero, List.set_cons_succ]
            refine wpAnyH_take (i := 15) (oi := Oper.mk (some 42) _ _ _ _ _) (v := ?v22) rfl (by kernel_rfl) (by kernel_rfl) (by kernel_rfl) (fun _ _ _ h => h) (Or.inl ⟨by rfl, ?y22⟩) hHeld ?r22
            case y22 => (intro W hSW; obtain ⟨q0, q1, q2⟩ := hSW; go_simp; try with_reducible rfl)
            simp only [Act.put, List.setIfInBounds_toArray, List.set_cons_zero, List.set_cons_succ]
            refine wpAnyH_ready (rs := [16]) (by kernel_rfl) (by simp) (AllReadyH.cons (o := Oper.mk none _ _ _ _ _) rfl (fun Kk hK => ?_) AllReadyH.nil)
            go_simp
            refine hK.out _ _ S6 (fun hHeld => ?_)
            clear hK Kk
            refine wpAnyH_done (by kernel_rfl) ?_ _
            have st2 := box2_set1 hP6 (.int .i64 (nx + 1))
            have HP7 := hide st2.1
            have HB7 := hide (hB6.grown st2.2 (Nat.le_trans (Nat.le_trans hlo4 hg5.size) st.2.size) (fun q e => by have e2 : p = q := Option.some.inj e; rw [← e2]; exact hlop))
            have HC7 := hide (HC6.out.rebase3 (w' := (w5.setCell ⟨p, 0, none⟩ (.slice (some ⟨g5, 0, none⟩) (n + 1) c5)).setCell ⟨p, 1, none⟩ (.int .i64 (nx + 1))) (g' := g5) hP6 (fun q hq hne hnp => st2.2.block q hq (fun e => hnp (Option.some.inj e))) (.inl rfl))
            have HO7 := hide (ownsRow_sameB (w' := (w5.setCell ⟨p, 0, none⟩ (.slice (some ⟨g5, 0, none⟩) (n + 1) c5)).setCell ⟨p, 1, none⟩ (.int .i64 (nx + 1))) HO6.out (fun q e => by have e1 : g5 = q := Option.some.inj e; subst e1; exact st2.2.block g5 (Nat.lt_of_lt_of_le hlt5 st.2.size) (fun e => hg5p (Option.some.inj e))))
            obtain ⟨p0, p1, pf0, pf1⟩ := box2_cell hP6
            obtain ⟨m0, m1, -, -⟩ := box2_cell HP7.out
            have HD := hide (Copied.done (cp := c5) (by rw [HLen.out]; exact HC7.out) rfl hg5l (by rw [HLen.out]; exact HO7.out))
            clear S2 S3 S4 S5 S6 st st2 o5 o51 of0 of1 hHeld o4 hP5 hF5 hP4 hF4 hP3 hF3 ho5 hg5 HO4 HSrc hnew4 hB4 hbr4 ba4 o3 hbr3 hnew b3 HC4 HC6 HC7 HCop HO6 HO7 o2 hB5 hB6 hF6 hP2 hF2
            go_wp2
            go_ret
            exact ⟨by rw [HA.out]; rfl, some ⟨g5, 0, none⟩, c5, K ++ [⟨nx, kd, a', c', M⟩], by rw [HA.out, HLen.out]; exact HP7.out, .inr ⟨g5, rfl, HD.out.1⟩, by rw [HA.out, List.map_append]; rfl, HB7.out⟩
end Go.Proofs.YtbellpalomiokadDoor
/-
  A store's items, behind a write into the store's own block alone.
-/
namespace Go.Proofs.YtbellpalomiokadDoor
open Go.RowKit
set_option linter.unusedVariables false

theorem HoldsI.other {w w' : World} {lo g cp p : Nat} {K : List It} {cs : Array Value} (h : HoldsI w lo g cp K) (hp : w.heap[p]? = some (.cells cs 26 (0, 0))) (hk : ∀ q, q < w.heap.size → q ≠ p → w'.heap[q]? = w.heap[q]?) : HoldsI w' lo g cp K := by
  refine ⟨ownsRow_sameB h.own (fun k e => ?_), h.low, fun i hi hne => ?_, h.apart, h.lies⟩
  · have e2 : g = k := Option.some.inj e
    subst e2
    exact hk g h.lt (fun e3 => row_ne_box h.own hp (by decide) e3.symm)
  · obtain ⟨q, e, h1, h2, o⟩ := h.vals i hi hne
    have hne2 : q ≠ p := fun e3 => row_ne_box o hp (by decide) e3.symm
    refine ⟨q, e, h1, h2, ownsRow_sameB o (fun k e4 => ?_)⟩
    have e5 : q = k := Option.some.inj e4
    rw [← e5]
    exact hk q o.lt hne2
theorem HV.grown {w w' : World} {lo n vc q : Nat} {va : Option Addr} {K : List It} (h : HV w lo n va vc K) (hg : w.grownBy w' (some q)) (hq : q < lo) : HV w' lo n va vc K :=
  h.imp id (fun ⟨g, e, o⟩ => ⟨g, e, o.grown hg hq⟩)
theorem HV.weaken {w : World} {lo lo' n vc : Nat} {va : Option Addr} {K : List It} (h : HV w lo n va vc K) (hl : lo' ≤ lo) : HV w lo' n va vc K :=
  h.imp id (fun ⟨g, e, o⟩ => ⟨g, e, o.weaken hl⟩)
theorem HV.rd {w : World} {lo n vc : Nat} {va : Option Addr} {K : List It} (h : HV w lo n va vc K) : RdI w va K := by
  rcases h with ⟨-, rfl, -, -⟩ | ⟨g, rfl, o⟩
  · exact RdI.nil _ _
  · exact o.rd
end Go.Proofs.YtbellpalomiokadDoor
/-
  The contracts of the draws' cursor: what stands in its block, and what each step answers (a number within its bounds); no step touches another block that was there.
-/
namespace Go.Proofs.YtbellpalomiokadDoor
open Go.RowKit
set_option linter.unusedVariables false

theorem i64_and255 (n : Int) : bits .and .i64 n 255 = n % 256 := by
  have h255 : (BitVec.ofInt 64 255).toNat = 2 ^ 8 - 1 := by decide
  have key : (BitVec.ofInt 64 n &&& BitVec.ofInt 64 255).toNat = (n % ((2 ^ 64 : Nat) : Int)).toNat % 2 ^ 8 := by
    rw [BitVec.toNat_and, BitVec.toNat_ofInt, h255, Nat.and_two_pow_sub_one_eq_mod]
  show IntKind.i64.wrap ((BitVec.ofInt 64 n &&& BitVec.ofInt 64 255).toNat : Nat) = n % 256
  rw [key, IntKind.wrap_i64]
  omega

/-- the slice at 'a' reads as bs, below block B -/
def RdB (B : Nat) (w : World) (a : Option Addr) (bs : List UInt8) : Prop :=
  ∀ i, i < bs.length → ∃ b off, a = some ⟨b, off, none⟩ ∧ b < B ∧ w.cell? ⟨b, off + i, none⟩ = some (.int .u8 (byteAt bs i))
theorem RdB.below {B : Nat} {w w' : World} {a : Option Addr} {bs : List UInt8} (h : RdB B w a bs) (hb : Below B w w') : RdB B w' a bs := by
  intro i hi
  obtain ⟨b, off, e, hl, hc⟩ := h i hi
  exact ⟨b, off, e, hl, by rw [hb.cell (p := ⟨b, off + i, none⟩) hl]; exact hc⟩
theorem Rd.toB {w : World} {a : Option Addr} {bs : List UInt8} (h : Rd w a bs) : RdB w.heap.size w a bs := by
  intro i hi
  obtain ⟨b, off, e, hc⟩ := h i hi
  exact ⟨b, off, e, World.block_lt_of_cell? w _ hc, hc⟩
theorem RdB.toRd {B : Nat} {w : World} {a : Option Addr} {bs : List UInt8} (h : RdB B w a bs) : Rd w a bs := by
  intro i hi
  obtain ⟨b, off, e, hl, hc⟩ := h i hi
  exact ⟨b, off, e, hc⟩

/-- block q holds a cursor over bytes below B -/
def Cur (B : Nat) (w : World) (q : Nat) : Prop := B ≤ q ∧ ∃ (a : Option Addr) (cap : Nat) (code : List UInt8) (i : Nat) (h : Int),
  code.length ≤ 1048576 ∧ i ≤ code.length ∧ RdB B w a code ∧ w.heap[q]? = some (.cells #[.slice a code.length cap, .int .i64 (i : Int), .int .i64 h] 73 (0, 0))

theorem Cur.lt {B q : Nat} {w : World} (h : Cur B w q) : q < w.heap.size := by
  obtain ⟨_, a, cap, code, i, hh, _, _, _, hg⟩ := h
  exact (Array.getElem?_eq_some_iff.1 hg).1
theorem Cur.keep {B q : Nat} {w w' : World} {row : Option Nat} (h : Cur B w q) (hg : w.grownBy w' row) (hr : row ≠ some q) (hB : ∀ k, row = some k → B ≤ k) : Cur B w' q := by
  have hlt := h.lt
  obtain ⟨hb, a, cap, code, i, hh, h1, h2, h3, h4⟩ := h
  refine ⟨hb, a, cap, code, i, hh, h1, h2, h3.below ((Below.refl _ _).grown hg (by omega) hB), ?_⟩
  rw [hg.block q hlt (fun e => hr e.symm)]; exact h4

theorem struct_cell {w : World} {q : Nat} {c0 c1 c2 : Value} {T : TypeId} (h : w.heap[q]? = some (.cells #[c0, c1, c2] T (0, 0))) :
    w.cell? ⟨q, 0, none⟩ = some c0 ∧ w.cell? ⟨q, 1, none⟩ = some c1 ∧ w.cell? ⟨q, 2, none⟩ = some c2 ∧ (∀ j, w.frozen? ⟨q, j, none⟩ = false) := by
  refine ⟨?_, ?_, ?_, ?_⟩
  · rw [cell_of_row w q 0 _ T (0, 0) h]; rfl
  · rw [cell_of_row w q 1 _ T (0, 0) h]; rfl
  · rw [cell_of_row w q 2 _ T (0, 0) h]; rfl
  · intro j; exact frozen_of_row w q j _ T h

theorem struct_set2 {w : World} {q : Nat} {c0 c1 c2 : Value} {T : TypeId} (h : w.heap[q]? = some (.cells #[c0, c1, c2] T (0, 0))) (u : Value) :
    (w.setCell ⟨q, 2, none⟩ u).heap[q]? = some (.cells #[c0, c1, u] T (0, 0)) ∧ w.grownBy (w.setCell ⟨q, 2, none⟩ u) (some q) := by
  refine ⟨?_, ⟨rfl, rfl, rfl, by simp [World.setCell], fun k _ hk => heap_setCell_other w ⟨q, 2, none⟩ k u (fun e => hk (by simp [e]))⟩⟩
  rw [heap_setCell_same w q 2 _ T u h]; rfl
theorem struct_set1 {w : World} {q : Nat} {c0 c1 c2 : Value} {T : TypeId} (h : w.heap[q]? = some (.cells #[c0, c1, c2] T (0, 0))) (u : Value) :
    (w.setCell ⟨q, 1, none⟩ u).heap[q]? = some (.cells #[c0, u, c2] T (0, 0)) ∧ w.grownBy (w.setCell ⟨q, 1, none⟩ u) (some q) := by
  refine ⟨?_, ⟨rfl, rfl, rfl, by simp [World.setCell], fun k _ hk => heap_setCell_other w ⟨q, 1, none⟩ k u (fun e => hk (by simp [e]))⟩⟩
  rw [heap_setCell_same w q 1 _ T u h]; rfl
theorem grown_trans {a b c : World} {row : Option Nat} (h : a.grownBy b row) (k : b.grownBy c row) : a.grownBy c row :=
  ⟨k.os.trans h.os, k.tape.trans h.tape, k.output.trans h.output, Nat.le_trans h.size k.size, fun i hi hne => (k.block i (Nat.lt_of_lt_of_le hi h.size) hne).trans (h.block i hi hne)⟩
theorem grown_drewN {w w' : World} {row : Option Nat} (h : w.grownBy w' row) (n : Nat) : w.grownBy (w'.drewN n) row := ⟨h.os, h.tape, h.output, h.size, h.block⟩

theorem cur_step {B q cap i : Nat} {w1 : World} {a : Option Addr} {code : List UInt8} {H : Int} (hb : B ≤ q) (hl : code.length ≤ 1048576) (hi : i < code.length) (hr : RdB B w1 a code)
    (hg : w1.heap[q]? = some (.cells #[.slice a code.length cap, .int .i64 (i : Int), .int .i64 H] 73 (0, 0))) (n : Nat) :
    Cur B ((w1.drewN n).setCell ⟨q, 1, none⟩ (.int .i64 ((i : Int) + 1))) q ∧ w1.grownBy ((w1.drewN n).setCell ⟨q, 1, none⟩ (.int .i64 ((i : Int) + 1))) (some q) := by
  obtain ⟨hg2, gr2⟩ := struct_set1 (w := w1.drewN n) hg (.int .i64 ((i : Int) + 1))
  have gr3 : w1.grownBy ((w1.drewN n).setCell ⟨q, 1, none⟩ (.int .i64 ((i : Int) + 1))) (some q) := ⟨gr2.os, gr2.tape, gr2.output, gr2.size, gr2.block⟩
  have hq := (Array.getElem?_eq_some_iff.1 hg).1
  refine ⟨⟨hb, a, cap, code, i + 1, H, hl, hi, hr.below ((Below.refl B w1).grown gr3 (by omega) (fun k hk => by cases hk; exact hb)), ?_⟩, gr3⟩
  rw [hg2]; rfl
theorem cur_stay {B q cap i : Nat} {w1 : World} {a : Option Addr} {code : List UInt8} {H : Int} (hb : B ≤ q) (hl : code.length ≤ 1048576) (hi : i ≤ code.length) (hr : RdB B w1 a code)
    (hg : w1.heap[q]? = some (.cells #[.slice a code.length cap, .int .i64 (i : Int), .int .i64 H] 73 (0, 0))) (n m : Nat) :
    Cur B ((w1.drewN n).drewN m) q ∧ w1.grownBy ((w1.drewN n).drewN m) (some q) :=
  ⟨⟨hb, a, cap, code, i, H, hl, hi, hr.below ⟨rfl, rfl, rfl, Nat.le_refl _, fun _ _ => rfl⟩, hg⟩, ⟨rfl, rfl, rfl, Nat.le_refl _, fun _ _ _ => rfl⟩⟩

set_option maxHeartbeats 1600000 in
theorem l1Byte_any (B q : Nat) (w : World) (hc : Cur B w q) :
    Calls Tryd.prog 54 #[.pointer (some ⟨q, 0, none⟩)] w fun e w' => ∃ x : Int, e = .returned (.int .i64 x) ∧ 0 ≤ x ∧ x ≤ 255 ∧ Cur B w' q ∧ w.grownBy w' (some q) := by
  obtain ⟨hb, a, cap, code, i, h, hl, hi, hr, hg⟩ := hc
  have HG := hide hg
  obtain ⟨c0, c1, c2, cf⟩ := struct_cell hg
  have f2 := cf 2
  clear cf hg
  have h255 := i64_and255
  go_enter Tryd.func54, Tryd.ntmps54
  go_wp2
  generalize wrap64 (h * 6364136223846793005) = H1
  generalize wrap64 (H1 + 1442695040888963407) = H
  obtain ⟨hg1, gr1⟩ := struct_set2 HG.out (.int .i64 H)
  have HR := hide (hr.below ((Below.refl B w).grown gr1 (by have := (Array.getElem?_eq_some_iff.1 HG.out).1; omega) (fun k hk => by cases hk; exact hb)))
  have HG1 := hide hg1
  have HR1 := hide gr1
  clear c0 c1 c2 f2 hr gr1 HG
  generalize w.setCell ⟨q, 2, none⟩ (.int .i64 H) = w1 at hg1 HR HG1 HR1 ⊢
  obtain ⟨c0, c1, c2, cf⟩ := struct_cell hg1
  have f1 := cf 1
  clear cf hg1
  go_quiet (fail)
  go_wp2
  have hx0 := Int.emod_nonneg (bits BinOp.xor IntKind.i64 (H / 8589934592) (H / 140737488355328)) (show (256 : Int) ≠ 0 by omega)
  have hx1 := Int.emod_lt_of_pos (bits BinOp.xor IntKind.i64 (H / 8589934592) (H / 140737488355328)) (show (0 : Int) < 256 by omega)
  generalize bits BinOp.xor IntKind.i64 (H / 8589934592) (H / 140737488355328) % 256 = x at hx0 hx1 ⊢
  by_cases hlt : i < code.length
  · obtain ⟨b, off, hab, hbB, hcell⟩ := HR.out i hlt
    have hi2 : (i : Int) < (code.length : Int) := by omega
    have y1 := byteAt_lo code i
    have y2 := byteAt_hi code i
    generalize byteAt code i = y at hcell y1 y2
    subst hab
    go_quiet (fail)
    go_wp2
    go_quiet (fail)
    go_wp2
    go_ret
    have CS := cur_step hb hl hlt HR.out HG1.out
    exact ⟨_, rfl, by omega, by omega, (CS _).1, grown_trans HR1.out (CS _).2⟩
  · go_quiet (fail)
    go_wp2
    go_ret
    have CS := cur_stay hb hl hi HR.out HG1.out
    exact ⟨_, rfl, by omega, by omega, (CS _ _).1, grown_trans HR1.out (CS _ _).2⟩

set_option maxHeartbeats 1600000 in
theorem l1Below_any (B q : Nat) (n : Int) (w : World) (hc : Cur B w q) (hn : 0 < n) (hn2 : n ≤ 1000000) :
    Calls Tryd.prog 37 #[.pointer (some ⟨q, 0, none⟩), .int .i64 n] w fun e w' => ∃ x : Int, e = .returned (.int .i64 x) ∧ 0 ≤ x ∧ x < n ∧ Cur B w' q ∧ w.grownBy w' (some q) := by
  by_cases hs : n ≤ 256
  · go_enter Tryd.func37, Tryd.ntmps37
    go_wp2_with fail
    refine (l1Byte_any B q w hc).mono ?_
    rintro e w1 ⟨x, rfl, x0, x1, c1, g1⟩
    go_wp2
    go_ret
    exact ⟨_, rfl, Int.emod_nonneg _ (by omega), Int.emod_lt_of_pos _ hn, c1, g1⟩
  · go_enter Tryd.func37, Tryd.ntmps37
    go_wp2_with fail
    refine (l1Byte_any B q w hc).mono ?_
    rintro e w1 ⟨x, rfl, x0, x1, c1, g1⟩
    go_wp2_with fail
    refine (l1Byte_any B q w1 c1).mono ?_
    rintro e w2 ⟨y, rfl, y0, y1, c2, g2⟩
    go_wp2_with fail
    refine (l1Byte_any B q w2 c2).mono ?_
    rintro e w3 ⟨z, rfl, z0, z1, c3, g3⟩
    go_wp2
    go_ret
    exact ⟨_, rfl, Int.emod_nonneg _ (by omega), Int.emod_lt_of_pos _ hn, c3, grown_trans (grown_trans g1 g2) g3⟩

set_option maxHeartbeats 1600000 in
theorem l1Int_any (B q l : Nat) (zs : List Int) (cap : Nat) (w : World) (hc : Cur B w q) (hn : 0 < zs.length) (hn2 : zs.length ≤ 1000) (hq : l ≠ q)
    (hz : ∀ k, k < zs.length → w.cell? ⟨l, k, none⟩ = some (.int .i64 (zs.getD k 0))) :
    Calls Tryd.prog 38 #[.pointer (some ⟨q, 0, none⟩), .slice (some ⟨l, 0, none⟩) zs.length cap] w fun e w' => ∃ x : Int, e = .returned (.int .i64 x) ∧ x ∈ zs ∧ Cur B w' q ∧ w.grownBy w' (some q) := by
  obtain ⟨n, hN⟩ : ∃ n, n = zs.length := ⟨_, rfl⟩
  rw [← hN] at hn hn2 hz ⊢
  have HZ := hide hz
  have HN := hide hN
  clear hz hN
  go_enter Tryd.func38, Tryd.ntmps38
  go_wp2_with fail
  refine (l1Below_any B q n w hc (by omega) (by omega)).mono ?_
  rintro e w1 ⟨x, rfl, x0, x1, c1, g1⟩
  obtain ⟨k, rfl⟩ := Int.eq_ofNat_of_zero_le x0
  have hk : k < n := by omega
  have h1 : w1.cell? ⟨l, k, none⟩ = some (.int .i64 (zs.getD k 0)) := g1.cell (HZ.out k hk) (by simp; exact hq)
  have HM : Hid (zs.getD k 0 ∈ zs) := by
    have hk2 : k < zs.length := by rw [← HN.out]; exact hk
    unfold Hid
    simp [List.getD, hk2]
  generalize zs.getD k 0 = z at h1 HM
  go_wp2
  go_ret
  exact ⟨_, rfl, HM.out, c1, g1⟩
end Go.Proofs.YtbellpalomiokadDoor
/-
  The contracts of the draws of bytes: a new cursor; some bytes drawn into a row of the call's own.
-/
namespace Go.Proofs.YtbellpalomiokadDoor
open Go.RowKit
set_option linter.unusedVariables false

theorem grown_more {a b c : World} {q : Option Nat} {row : Option Nat} (h : a.grownBy b q) (k : b.grownBy c row) (hr : ∀ j, row = some j → a.heap.size ≤ j) : a.grownBy c q :=
  ⟨k.os.trans h.os, k.tape.trans h.tape, k.output.trans h.output, Nat.le_trans h.size k.size,
    fun i hi hne => (k.block i (Nat.lt_of_lt_of_le hi h.size) (fun e => by have := hr i e.symm; omega)).trans (h.block i hi hne)⟩

theorem owns_base {w : World} {base base' n size : Nat} {e : TypeId} {v : Value} {xs : List Value} (h : w.ownsRow base e size v n xs) (hb : base' ≤ base) : w.ownsRow base' e size v n xs := by
  refine ⟨h.1, ?_⟩
  rcases h.2 with h2 | ⟨g, cap, cur, h1, hb', rest⟩
  · exact .inl h2
  · exact .inr ⟨g, cap, cur, h1, by omega, rest⟩

set_option maxRecDepth 100000 in
set_option maxHeartbeats 1600000 in
theorem l1New_any (B : Nat) (a : Option Addr) (cap : Nat) (code : List UInt8) (w : World) (hr : RdB B w a code) (hn : code.length ≤ 1048576) (hB : B ≤ w.heap.size) :
    Calls Tryd.prog 18 #[.slice a code.length cap] w fun e w' => e = .returned (.pointer (some ⟨w.heap.size, 0, none⟩)) ∧ Cur B w' w.heap.size ∧ w.grownBy w' none := by
  obtain ⟨n, hN⟩ : ∃ n, n = code.length := ⟨_, rfl⟩
  rw [← hN] at hn ⊢
  have HN := hide hN
  clear hN
  go_enter Tryd.func18, Tryd.ntmps18
  go_wp2
  go_loop [3, 4] (fun h i => ∃ (k : Nat) (x : Int), k ≤ n ∧ i = .int .i64 k ∧ h = .int .i64 x) (fun _ i => n - (intOf i).toNat)
  case atStart => exact ⟨0, _, Nat.zero_le _, rfl, rfl⟩
  case round =>
    obtain ⟨k, x, hk, rfl, rfl⟩ := hrel
    by_cases hlt : k < n ∧ k < 4000
    · obtain ⟨h1, h2⟩ := hlt
      obtain ⟨b, off, hab, hbB, hcell⟩ := hr k (by rw [← HN.out]; exact h1)
      have y1 := byteAt_lo code k
      have y2 := byteAt_hi code k
      generalize byteAt code k = y at hcell y1 y2
      subst hab
      go_wp2
      go_round
      case rel => exact ⟨k + 1, _, by omega, by go_num, rfl⟩
      case measure => simp [intOf]; omega
    · by_cases h1 : k < n
      all_goals
        go_wp2
        go_ret
        refine ⟨rfl, ⟨hB, a, cap, code, 0, x, by rw [← HN.out]; exact hn, Nat.zero_le _, hr.below ((Below.refl _ _).alloc hB _), ?_⟩, World.grownBy_alloc _ _ _⟩
        rw [heap_alloc_new, ← HN.out]; rfl

theorem cells_lit (w : World) (T : TypeId) (zs : List Int) : ∀ k, k < zs.length → (w.alloc (.cells (zs.map (Value.int .i64)).toArray T)).cell? ⟨w.heap.size, k, none⟩ = some (.int .i64 (zs.getD k 0)) := by
  intro k hk
  rw [cell_of_row _ w.heap.size k _ T (0, 0) (heap_alloc_new w _)]
  simp [List.getD, hk]

end Go.Proofs.YtbellpalomiokadDoor
/-
  A block of some cells (a struct in memory): what it reads as, what a store leaves.
-/
namespace Go.Proofs.YtbellpalomiokadDoor
open Go.RowKit
set_option linter.unusedVariables false

theorem boxk_new (w : World) (cs : Array Value) (T : TypeId) : (w.alloc (.cells cs T)).heap[w.heap.size]? = some (.cells cs T (0, 0)) := by rw [heap_alloc_new]
theorem boxk_cell {w : World} {q : Nat} {cs : Array Value} {T : TypeId} (h : w.heap[q]? = some (.cells cs T (0, 0))) (j : Nat) (c : Value) (hc : cs[j]? = some c) : w.cell? ⟨q, j, none⟩ = some c := by
  rw [cell_of_row w q j cs T (0, 0) h]; exact hc
theorem boxk_frozen {w : World} {q : Nat} {cs : Array Value} {T : TypeId} (h : w.heap[q]? = some (.cells cs T (0, 0))) (j : Nat) : w.frozen? ⟨q, j, none⟩ = false := frozen_of_row w q j _ T h
theorem boxk_set {w : World} {q : Nat} {cs : Array Value} {T : TypeId} (h : w.heap[q]? = some (.cells cs T (0, 0))) (j : Nat) (v : Value) :
    (w.setCell ⟨q, j, none⟩ v).heap[q]? = some (.cells (cs.setIfInBounds j v) T (0, 0)) ∧ w.grownBy (w.setCell ⟨q, j, none⟩ v) (some q) := by
  refine ⟨by rw [heap_setCell_same w q j _ T v h], ⟨rfl, rfl, rfl, by simp [World.setCell], fun k _ hk => heap_setCell_other w ⟨q, j, none⟩ k v (fun e => hk (by simp [e]))⟩⟩
theorem grown_tt {a b c : World} {row : Option Nat} (h : a.grownBy b row) (k : b.grownBy c row) : a.grownBy c row :=
  ⟨k.os.trans h.os, k.tape.trans h.tape, k.output.trans h.output, Nat.le_trans h.size k.size, fun i hi hne => (k.block i (Nat.lt_of_lt_of_le hi h.size) hne).trans (h.block i hi hne)⟩
theorem box4_set {w : World} {q : Nat} {c0 c1 c2 c3 : Value} {T : TypeId} (h : w.heap[q]? = some (.cells #[c0, c1, c2, c3] T (0, 0))) (v0 v1 v2 v3 : Value) :
    ((((w.setCell ⟨q, 0, none⟩ v0).setCell ⟨q, 1, none⟩ v1).setCell ⟨q, 2, none⟩ v2).setCell ⟨q, 3, none⟩ v3).heap[q]? = some (.cells #[v0, v1, v2, v3] T (0, 0)) ∧ w.grownBy ((((w.setCell ⟨q, 0, none⟩ v0).setCell ⟨q, 1, none⟩ v1).setCell ⟨q, 2, none⟩ v2).setCell ⟨q, 3, none⟩ v3) (some q) := by
  have h0 := boxk_set h 0 v0
  have h1 := boxk_set h0.1 1 v1
  have h2 := boxk_set h1.1 2 v2
  have h3 := boxk_set h2.1 3 v3
  exact ⟨h3.1, (grown_tt (grown_tt (grown_tt h0.2 h1.2) h2.2) h3.2)⟩
theorem box4_post {P : Program} {f : Func} {Q : Ending → World → Prop} {x : Exit} {act : Act} {w : World} {q : Nat} {c0 c1 c2 c3 v0 v1 v2 v3 : Value} {T : TypeId} (h : w.heap[q]? = some (.cells #[c0, c1, c2, c3] T (0, 0)))
    (k : ∀ w2, w2.heap[q]? = some (.cells #[v0, v1, v2, v3] T (0, 0)) → w.grownBy w2 (some q) → bodyPost P f Q x act w2) : bodyPost P f Q x act ((((w.setCell ⟨q, 0, none⟩ v0).setCell ⟨q, 1, none⟩ v1).setCell ⟨q, 2, none⟩ v2).setCell ⟨q, 3, none⟩ v3) :=
  k _ (box4_set h v0 v1 v2 v3).1 (box4_set h v0 v1 v2 v3).2
theorem box5_set {w : World} {q : Nat} {c0 c1 c2 c3 c4 : Value} {T : TypeId} (h : w.heap[q]? = some (.cells #[c0, c1, c2, c3, c4] T (0, 0))) (v0 v1 v2 v3 v4 : Value) :
    (((((w.setCell ⟨q, 0, none⟩ v0).setCell ⟨q, 1, none⟩ v1).setCell ⟨q, 2, none⟩ v2).setCell ⟨q, 3, none⟩ v3).setCell ⟨q, 4, none⟩ v4).heap[q]? = some (.cells #[v0, v1, v2, v3, v4] T (0, 0)) ∧ w.grownBy (((((w.setCell ⟨q, 0, none⟩ v0).setCell ⟨q, 1, none⟩ v1).setCell ⟨q, 2, none⟩ v2).setCell ⟨q, 3, none⟩ v3).setCell ⟨q, 4, none⟩ v4) (some q) := by
  have h0 := boxk_set h 0 v0
  have h1 := boxk_set h0.1 1 v1
  have h2 := boxk_set h1.1 2 v2
  have h3 := boxk_set h2.1 3 v3
  have h4 := boxk_set h3.1 4 v4
  exact ⟨h4.1, (grown_tt (grown_tt (grown_tt (grown_tt h0.2 h1.2) h2.2) h3.2) h4.2)⟩
theorem box5_post {P : Program} {f : Func} {Q : Ending → World → Prop} {x : Exit} {act : Act} {w : World} {q : Nat} {c0 c1 c2 c3 c4 v0 v1 v2 v3 v4 : Value} {T : TypeId} (h : w.heap[q]? = some (.cells #[c0, c1, c2, c3, c4] T (0, 0)))
    (k : ∀ w2, w2.heap[q]? = some (.cells #[v0, v1, v2, v3, v4] T (0, 0)) → w.grownBy w2 (some q) → bodyPost P f Q x act w2) : bodyPost P f Q x act (((((w.setCell ⟨q, 0, none⟩ v0).setCell ⟨q, 1, none⟩ v1).setCell ⟨q, 2, none⟩ v2).setCell ⟨q, 3, none⟩ v3).setCell ⟨q, 4, none⟩ v4) :=
  k _ (box5_set h v0 v1 v2 v3 v4).1 (box5_set h v0 v1 v2 v3 v4).2
end Go.Proofs.YtbellpalomiokadDoor
/-
  The model's l4Drop: the items with another number, in a row of the call's own.
-/
namespace Go.Proofs.YtbellpalomiokadDoor
open Go.RowKit
set_option linter.unusedVariables false

/-- the items with another number -/
def dropP (K : List It) (id : Int) : List It := K.filter fun x => !decide (x.id = id)
theorem dropP_take {K : List It} {id : Int} {k : Nat} (h : k < K.length) : dropP (K.take (k + 1)) id = dropP (K.take k) id ++ (if (iAt K k).id = id then [] else [iAt K k]) := by
  unfold dropP
  rw [List.take_add_one, List.getElem?_eq_getElem h, List.filter_append, iAt_in h]
  congr 1
  by_cases e : K[k].id = id
  · simp [e]
  · simp [e]
theorem dropP_len (K : List It) (id : Int) : (dropP K id).length ≤ K.length := List.length_filter_le _ _
theorem dropP_mem {K : List It} {id : Int} {x : It} (h : x ∈ dropP K id) : x ∈ K := (List.mem_filter.1 h).1
theorem HoldsI.pair {w : World} {lo g cp : Nat} {K : List It} (h : HoldsI w lo g cp K) : K.Pairwise fun x y => x.L ≠ [] → y.L ≠ [] → x.a ≠ y.a := by
  rw [List.pairwise_iff_getElem]
  intro i j hi hj hij h1 h2
  have := h.apart i j hij hj
  rw [iAt_in hi, iAt_in hj] at this
  exact this h1 h2
/-- some of the items, in order, in another row -/
theorem HoldsI.some {w w' : World} {lo g g' cp cp' : Nat} {K K' : List It} (h : HoldsI w lo g cp K) (hs : K'.Sublist K) (hb : Below w.heap.size w w') (ho : w'.ownsRow w.heap.size 38 3 (.slice (some ⟨g', 0, none⟩) K'.length cp') K'.length (rowOf It.cells K')) (hlo : lo ≤ w.heap.size) : HoldsI w' lo g' cp' K' := by
  have hg := (ho.lt g' rfl).1
  have hm : ∀ i, i < K'.length → ∃ j, j < K.length ∧ iAt K' i = iAt K j := fun i hi => by
    obtain ⟨j, hj, e⟩ := List.getElem_of_mem (hs.subset (List.getElem_mem hi))
    exact ⟨j, hj, by rw [iAt_in hi, iAt_in hj, e]⟩
  refine ⟨owns_base ho (Nat.zero_le _), by omega, fun i hi hne => ?_, fun i j hij hj h1 h2 => ?_, fun i hi => ?_⟩
  · obtain ⟨j, hj, e⟩ := hm i hi
    rw [e] at hne ⊢
    obtain ⟨q, e1, e2, e3, o⟩ := h.vals j hj hne
    exact ⟨q, e1, e2, by have := o.lt; omega, o.later hb⟩
  · have := h.pair.sublist hs
    rw [List.pairwise_iff_getElem] at this
    rw [iAt_in (Nat.lt_trans hij hj)] at h1 ⊢
    rw [iAt_in hj] at h2 ⊢
    exact this i j _ hj hij h1 h2
  · obtain ⟨j, hj, e⟩ := hm i hi
    rw [e]; exact h.lies j hj

set_option maxRecDepth 100000 in
set_option maxHeartbeats 6400000 in
theorem l4Drop_any (p lo n vc : Nat) (va : Option Addr) (nx id : Int) (K : List It) (w : World) (hp : w.heap[p]? = some (.cells #[.slice va n vc, .int .i64 nx] 26 (0, 0))) (hv : HV w lo n va vc K) (hKn : K.length = n) (hn : n ≤ 1048576) (hlop : lo ≤ p) (hlo : lo ≤ w.heap.size) :
    Calls Tryd.prog 53 #[.pointer (some ⟨p, 0, none⟩), .int .i64 id] w fun e w' =>
      (∃ b, e = .returned (.bool b)) ∧ ∃ g' vc', w'.heap[p]? = some (.cells #[.slice (some ⟨g', 0, none⟩) (dropP K id).length vc', .int .i64 nx] 26 (0, 0)) ∧ HoldsI w' lo g' vc' (dropP K id) ∧ Below lo w w' := by
  obtain ⟨i0, hi, hz0, hz1, hz2⟩ := info_parts Tryd.info38
  have HKn := hide hKn
  have hpl := (Array.getElem?_eq_some_iff.1 hp).1
  have HV0 := hide hv
  have HP := hide hp
  have HRd : Hid (RdI w va K) := by
    unfold Hid
    rcases hv with ⟨-, rfl, -, -⟩ | ⟨g, rfl, o⟩
    · exact RdI.nil _ _
    · exact o.rd
  have ho0 := World.ownsRow_lit (base := w.heap.size) (e := 38) (size := 3) w #[] 0 (Nat.le_refl _) (Nat.zero_le _) rfl
  have b0 := below_al w (.cells #[] 38)
  clear hv hp hKn
  go_enter Tryd.func53, Tryd.ntmps53
  go_wp2
  generalize w.alloc (.cells #[] 38) = w0 at ho0 b0
  go_loopw [5, 6] (fun v i wr => ∃ (k g c m : Nat), m = (dropP (K.take k) id).length ∧ k ≤ n ∧ m ≤ k ∧ i = .int .i64 k ∧ v = .slice (some ⟨g, 0, none⟩) m c ∧ wr.ownsRow w.heap.size 38 3 (.slice (some ⟨g, 0, none⟩) m c) m (rowOf It.cells (dropP (K.take k) id)) ∧ Below w.heap.size w wr) (fun _ i _ => n - (intOf i).toNat)
  case atStart => exact ⟨0, w.heap.size, 0, 0, by simp [dropP], Nat.zero_le _, Nat.le_refl _, rfl, rfl, by rw [show dropP (K.take 0) id = [] by simp [dropP]]; exact ho0, b0⟩
  case round =>
    obtain ⟨k, g, c, m, hm, hk, hmk, rfl, rfl, hown, hbel⟩ := hrel
    have HM := hide hm
    have HO := hide hown
    clear ho0 b0 hm hown
    have hcp := boxk_cell (box_below HP.out hbel hpl) 0 _ rfl
    have hfp := boxk_frozen (box_below HP.out hbel hpl) 0
    by_cases hlt : k < n
    · obtain ⟨b, off, hab, hbw, hc⟩ := RdI.open HRd.out (by rw [HKn.out]; omega)
      obtain ⟨d0, d1, d2, -⟩ := hc k (by rw [HKn.out]; exact hlt)
      have HStep := hide (dropP_take (K := K) (id := id) (k := k) (by rw [HKn.out]; exact hlt))
      clear hc
      subst hab
      rw [← hbel.cell (p := ⟨b, off + k * 3, none⟩) hbw] at d0
      rw [← hbel.cell (p := ⟨b, off + k * 3 + 1, none⟩) hbw] at d1
      rw [← hbel.cell (p := ⟨b, off + k * 3 + 2, none⟩) hbw] at d2
      have hl1 : (k : Int) < (n : Int) := by omega
      have hl2 : (0 : Int) ≤ (k : Int) := by omega
      by_cases he : (iAt K k).id = id
      · rw [he] at d0
        have ke : (id != id) = false := by simp
        have HS2 : Hid (dropP (K.take (k + 1)) id = dropP (K.take k) id) := by unfold Hid; rw [HStep.out, if_pos he, List.append_nil]
        clear he
        go_wp2
        go_roundw
        case rel => exact ⟨k + 1, g, c, m, by rw [HS2.out]; exact HM.out, by omega, by omega, by go_num, rfl, by rw [HS2.out]; exact HO.out, hbel⟩
        case measure => simp [intOf]; omega
      · have HS2 : Hid (dropP (K.take (k + 1)) id = dropP (K.take k) id ++ [iAt K k]) := by unfold Hid; rw [HStep.out, if_neg he]
        have ke : ((iAt K k).id != id) = true := by simpa using he
        have HSrc := hide (srcI wr (iAt K k))
        have HO3 := hide (HO.out.alloc (.cells #[.int .i64 (iAt K k).id, .string (iAt K k).kd, .slice (iAt K k).a (iAt K k).L.length (iAt K k).cap] 38))
        have HB3 := hide (hbel.alloc hbel.size (.cells #[.int .i64 (iAt K k).id, .string (iAt K k).kd, .slice (iAt K k).a (iAt K k).L.length (iAt K k).cap] 38))
        have hz4 := HB3.out.size
        have HApp : Hid (rowOf It.cells (dropP (K.take k) id) ++ It.cells (iAt K k) = rowOf It.cells (dropP (K.take (k + 1)) id)) := by unfold Hid; rw [HS2.out, rowOf_append]; simp [rowOf]
        clear he
        go_wp2_with (at_builtin; refine wpList_append_lies _ rfl (.tmp 28) (.tmp 36) 24 rfl w.heap.size 38 i0 (.agg #[.int .i64 0, .string ⟨#[]⟩, .slice none 0 0]) 3 48 Tryd.underlying24 hi hz0 hz1 hz2 rfl (by omega) (.slice (some ⟨g, 0, none⟩) m c) m (rowOf It.cells (dropP (K.take k) id)) rfl HO3.out ⟨wr.heap.size, 0, none⟩ 1 1 (It.cells (iAt K k)) ?hx rfl HSrc.out (oneI _) (by omega) (by unfold maxLen; omega) (by omega) hz4 _ rfl ?_)
        case hx => simp [Act.eval]
        intro g5 c5 w5 ho5 hg5 hat5 hlt5
        rw [HApp.out] at ho5
        have HO5 := hide ho5
        have HB5 := hide (HB3.out.grown hg5 HB3.out.size (fun j hj => (HO3.out.lt j hj).1))
        clear ho5 hg5 hat5 hlt5 HO3 HB3 HSrc HApp d0 d1 d2 hcp hfp hbel HO
        go_wp2
        go_roundw
        case rel => exact ⟨k + 1, g5, c5, m + 1, by rw [HS2.out, List.length_append, ← HM.out]; rfl, by omega, by omega, by go_num, rfl, HO5.out, HB5.out⟩
        case measure => simp [intOf]; omega
    · have hkn : k = K.length := by rw [HKn.out]; omega
      have HEnd : Hid (dropP (K.take k) id = dropP K id) := by unfold Hid; rw [hkn, List.take_length]
      rw [HEnd.out] at HO HM
      clear hkn HEnd
      have hbox := box_below HP.out hbel hpl
      obtain ⟨hb2, gr2⟩ := box2_set0 hbox (.slice (some ⟨g, 0, none⟩) m c)
      have hgw := (HO.out.lt g rfl).1
      have HRes : Hid (HoldsI (wr.setCell ⟨p, 0, none⟩ (.slice (some ⟨g, 0, none⟩) m c)) lo g c (dropP K id)) := by
        unfold Hid
        have hm2 := HM.out
        subst hm2
        rcases HV0.out with ⟨-, rfl, -, -⟩ | ⟨g1, rfl, o⟩
        · have hd : dropP [] id = [] := rfl
          rw [hd]
          have ho := HO.out
          rw [hd] at ho
          refine ⟨owns_base (ho.kept gr2 (.inr (by simp [Value.ownBlock]; omega))) (Nat.zero_le _), by omega, fun i hi => absurd hi (Nat.not_lt_zero _), fun i j _ hj => absurd hj (Nat.not_lt_zero _), fun i hi => absurd hi (Nat.not_lt_zero _)⟩
        · have o2 := o.some (List.filter_sublist) hbel HO.out hlo
          exact o2.other hbox (fun q hq hne => gr2.block q hq (fun e => hne (Option.some.inj e)))
      have HB2 : Hid (Below lo w (wr.setCell ⟨p, 0, none⟩ (.slice (some ⟨g, 0, none⟩) m c))) := (hbel.mono hlo).grown gr2 (Nat.le_trans hlo hbel.size) (fun j hj => by cases hj; exact hlop)
      have HBx := hide hb2
      clear hbox hb2 gr2 HO HV0
      go_wp2
      go_ret
      exact ⟨⟨_, rfl⟩, g, c, by rw [← HM.out]; exact HBx.out, HRes.out, HB2.out⟩
end Go.Proofs.YtbellpalomiokadDoor
/-
  The contracts of the draws of values: some value, whatever it is, with a text of at most 21 bytes.
-/
namespace Go.Proofs.YtbellpalomiokadDoor
open Go.RowKit
set_option linter.unusedVariables false

theorem box_grown {w w' : World} {R q : Nat} {o : Obj} (h : w.heap[R]? = some o) (hg : w.grownBy w' (some q)) (hne : R ≠ q) : w'.heap[R]? = some o := by
  rw [hg.block R (Array.getElem?_eq_some_iff.1 h).1 (by simp; omega)]; exact h
theorem box_alloc {w : World} {R : Nat} {o : Obj} (h : w.heap[R]? = some o) (x : Obj) : (w.alloc x).heap[R]? = some o := box_old h (Array.getElem?_eq_some_iff.1 h).1 x
theorem grown_alloc (w : World) (o : Obj) (q : Nat) : w.grownBy (w.alloc o) (some q) := World.grownBy_alloc w o _

set_option maxHeartbeats 400000 in
theorem l1Once_any (B q : Nat) (n : Int) (w : World) (hc : Cur B w q) (hn : 0 < n) (hn2 : n ≤ 1000000) :
    Calls Tryd.prog 52 #[.pointer (some ⟨q, 0, none⟩), .int .i64 n] w fun e w' => ∃ b : Bool, e = .returned (.bool b) ∧ Cur B w' q ∧ w.grownBy w' (some q) := by
  go_enter Tryd.func52, Tryd.ntmps52
  go_wp2_with fail
  refine (l1Below_any B q n w hc hn hn2).mono ?_
  rintro e w1 ⟨x, rfl, x0, x1, c1, g1⟩
  go_wp2
  go_ret
  exact ⟨_, rfl, c1, g1⟩

set_option maxHeartbeats 1600000 in
theorem l1Str_any (B q l : Nat) (zs : List ByteArray) (cap : Nat) (w : World) (hc : Cur B w q) (hn : 0 < zs.length) (hn2 : zs.length ≤ 1000) (hq : l ≠ q)
    (hz : ∀ k, k < zs.length → w.cell? ⟨l, k, none⟩ = some (.string (zs.getD k ⟨#[]⟩))) :
    Calls Tryd.prog 33 #[.pointer (some ⟨q, 0, none⟩), .slice (some ⟨l, 0, none⟩) zs.length cap] w fun e w' => ∃ x : ByteArray, e = .returned (.string x) ∧ x ∈ zs ∧ Cur B w' q ∧ w.grownBy w' (some q) := by
  obtain ⟨n, hN⟩ : ∃ n, n = zs.length := ⟨_, rfl⟩
  rw [← hN] at hn hn2 hz ⊢
  have HZ := hide hz
  have HN := hide hN
  clear hz hN
  go_enter Tryd.func33, Tryd.ntmps33
  go_wp2_with fail
  refine (l1Below_any B q n w hc (by omega) (by omega)).mono ?_
  rintro e w1 ⟨x, rfl, x0, x1, c1, g1⟩
  obtain ⟨k, rfl⟩ := Int.eq_ofNat_of_zero_le x0
  have hk : k < n := by omega
  have h1 : w1.cell? ⟨l, k, none⟩ = some (.string (zs.getD k ⟨#[]⟩)) := g1.cell (HZ.out k hk) (by simp; exact hq)
  have HM : Hid (zs.getD k ⟨#[]⟩ ∈ zs) := by
    have hk2 : k < zs.length := by rw [← HN.out]; exact hk
    unfold Hid
    simp [List.getD, hk2]
  generalize zs.getD k ⟨#[]⟩ = z at h1 HM
  go_wp2
  go_ret
  exact ⟨_, rfl, HM.out, c1, g1⟩

theorem cells_strs (w : World) (T : TypeId) (zs : List ByteArray) : ∀ k, k < zs.length → (w.alloc (.cells (zs.map Value.string).toArray T)).cell? ⟨w.heap.size, k, none⟩ = some (.string (zs.getD k ⟨#[]⟩)) := by
  intro k hk
  rw [cell_of_row _ w.heap.size k _ T (0, 0) (heap_alloc_new w _)]
  simp [List.getD, hk]

set_option maxRecDepth 100000 in
set_option maxHeartbeats 1600000 in
theorem l2Draw_any (B q : Nat) (w : World) (hc : Cur B w q) :
    Calls Tryd.prog 41 #[.pointer (some ⟨q, 0, none⟩)] w fun e w' => ∃ (K N : Int) (S : ByteArray), e = .returned (.agg #[.int .i64 K, .int .i64 N, .string S]) ∧ S.size ≤ 21 ∧ Cur B w' q ∧ w.grownBy w' (some q) := by
  have hq := hc.lt
  have hB := hc.1
  go_enter Tryd.func41, Tryd.ntmps41
  go_wp2_with fail
  refine (l1Once_any B q 2 _ (hc.keep (World.grownBy_alloc w _ none) (by simp) (by simp)) (by omega) (by omega)).mono ?_
  rintro e w1 ⟨b, rfl, c1, g1⟩
  have HR := hide (box_grown (box_new w (.int .i64 0) (.int .i64 0) (.string ⟨#[]⟩) 61) g1 (by omega))
  have G1 : w.grownBy w1 (some q) := grown_trans (grown_alloc w _ q) g1
  have z1 := G1.size
  have l1 := (Array.getElem?_eq_some_iff.1 HR.out).1
  clear g1
  cases b
  · go_wp2_with fail
    refine (l1Str_any B q w1.heap.size [⟨#[]⟩, ⟨#[97]⟩, ⟨#[98]⟩, ⟨#[112, 97, 105, 100]⟩, ⟨#[120, 95, 49]⟩] 5 _ (c1.keep (World.grownBy_alloc w1 _ none) (by simp) (by simp)) (by decide) (by decide) (by omega) (cells_strs w1 9 _)).mono ?_
    rintro e w2 ⟨s, rfl, hx, c2, g2⟩
    have HS : Hid (s.size ≤ 21) := by
      unfold Hid
      simp only [List.mem_cons, List.not_mem_nil, or_false] at hx
      rcases hx with rfl | rfl | rfl | rfl | rfl <;> decide
    have HR2 := hide (box_grown (box_alloc HR.out _) g2 (by omega))
    have G2 : w.grownBy w2 (some q) := grown_trans (grown_trans G1 (grown_alloc w1 _ q)) g2
    obtain ⟨a0, a1, a2, f0, f1, f2⟩ := box_cell HR2.out
    clear hx g2 HR c1
    go_wp2
    refine box_post HR2.out (fun w3 h3 gr => ?_)
    clear a0 a1 a2 f0 f1 f2
    obtain ⟨a0, a1, a2, -, -, -⟩ := box_cell h3
    refine bodyPost_ret (v := .agg #[.int .i64 2, .int .i64 0, .string s]) (by simp [results, Tryd.results41, go_sem, a0, a1, a2]) rfl ⟨_, _, _, rfl, HS.out, c2.keep gr (by simp; omega) (by intro k hk; cases hk; omega), grown_more G2 gr (by intro k hk; cases hk; omega)⟩
  · go_wp2_with fail
    refine (l1Int_any B q w1.heap.size [0, 1, 2, 3, -1, 1000000000, -1000000000] 7 _ (c1.keep (World.grownBy_alloc w1 _ none) (by simp) (by simp)) (by decide) (by decide) (by omega) (cells_lit w1 3 _)).mono ?_
    rintro e w2 ⟨x, rfl, hx, c2, g2⟩
    have HR2 := hide (box_grown (box_alloc HR.out _) g2 (by omega))
    have G2 : w.grownBy w2 (some q) := grown_trans (grown_trans G1 (grown_alloc w1 _ q)) g2
    obtain ⟨a0, a1, a2, f0, f1, f2⟩ := box_cell HR2.out
    clear hx g2 HR c1
    go_wp2
    refine box_post HR2.out (fun w3 h3 gr => ?_)
    clear a0 a1 a2 f0 f1 f2
    obtain ⟨a0, a1, a2, -, -, -⟩ := box_cell h3
    refine bodyPost_ret (v := .agg #[.int .i64 1, .int .i64 x, .string ⟨#[]⟩]) (by simp [results, Tryd.results41, go_sem, a0, a1, a2]) rfl ⟨_, _, _, rfl, by decide, c2.keep gr (by simp; omega) (by intro k hk; cases hk; omega), grown_more G2 gr (by intro k hk; cases hk; omega)⟩
end Go.Proofs.YtbellpalomiokadDoor
/-
  The contract of the draw of a small value: some value with a short text.
-/
namespace Go.Proofs.YtbellpalomiokadDoor
open Go.RowKit
set_option linter.unusedVariables false

set_option maxRecDepth 100000 in
set_option maxHeartbeats 1600000 in
theorem l3Small_any (B q : Nat) (w : World) (hc : Cur B w q) :
    Calls Tryd.prog 55 #[.pointer (some ⟨q, 0, none⟩)] w fun e w' => ∃ (v : V3), e = .returned (.agg #[.int .i64 v.K, .int .i64 v.N, .string v.S]) ∧ v.S.size ≤ 21 ∧ Cur B w' q ∧ w.grownBy w' (some q) := by
  have hq := hc.lt
  have hB := hc.1
  go_enter Tryd.func55, Tryd.ntmps55
  go_wp2_with fail
  refine (l1Once_any B q 2 _ (hc.keep (World.grownBy_alloc w _ none) (by simp) (by simp)) (by omega) (by omega)).mono ?_
  rintro e w1 ⟨b, rfl, c1, g1⟩
  have HR := hide (box_grown (box_new w (.int .i64 0) (.int .i64 0) (.string ⟨#[]⟩) 61) g1 (by omega))
  have G1 : w.grownBy w1 (some q) := grown_trans (grown_alloc w _ q) g1
  have z1 := G1.size
  have l1 := (Array.getElem?_eq_some_iff.1 HR.out).1
  clear g1
  cases b
  · go_wp2_with fail
    refine (l1Str_any B q w1.heap.size [⟨#[97]⟩, ⟨#[98]⟩] 2 _ (c1.keep (World.grownBy_alloc w1 _ none) (by simp) (by simp)) (by decide) (by decide) (by omega) (cells_strs w1 9 _)).mono ?_
    rintro e w2 ⟨s, rfl, hx, c2, g2⟩
    have HS : Hid (s.size ≤ 21) := by
      unfold Hid
      simp only [List.mem_cons, List.not_mem_nil, or_false] at hx
      rcases hx with rfl | rfl <;> decide
    have HR2 := hide (box_grown (box_alloc HR.out _) g2 (by omega))
    have G2 : w.grownBy w2 (some q) := grown_trans (grown_trans G1 (grown_alloc w1 _ q)) g2
    obtain ⟨a0, a1, a2, f0, f1, f2⟩ := box_cell HR2.out
    clear hx g2 HR c1
    go_wp2
    refine box_post HR2.out (fun w3 h3 gr => ?_)
    clear a0 a1 a2 f0 f1 f2
    obtain ⟨a0, a1, a2, -, -, -⟩ := box_cell h3
    refine bodyPost_ret (v := .agg #[.int .i64 2, .int .i64 0, .string s]) (by simp [results, Tryd.results55, go_sem, a0, a1, a2]) rfl ⟨⟨2, 0, s⟩, rfl, HS.out, c2.keep gr (by simp; omega) (by intro k hk; cases hk; omega), grown_more G2 gr (by intro k hk; cases hk; omega)⟩
  · go_wp2_with fail
    refine (l1Below_any B q 3 _ c1 (by omega) (by omega)).mono ?_
    rintro e w2 ⟨x, rfl, x0, x1, c2, g2⟩
    have HR2 := hide (box_grown HR.out g2 (by omega))
    have G2 : w.grownBy w2 (some q) := grown_trans G1 g2
    obtain ⟨a0, a1, a2, f0, f1, f2⟩ := box_cell HR2.out
    clear g2 HR c1
    go_wp2
    refine box_post HR2.out (fun w3 h3 gr => ?_)
    clear a0 a1 a2 f0 f1 f2
    obtain ⟨a0, a1, a2, -, -, -⟩ := box_cell h3
    refine bodyPost_ret (v := .agg #[.int .i64 1, .int .i64 (1 + x), .string ⟨#[]⟩]) (by simp [results, Tryd.results55, go_sem, a0, a1, a2]) rfl ⟨⟨1, 1 + x, ⟨#[]⟩⟩, rfl, (show (⟨#[]⟩ : ByteArray).size ≤ 21 by decide), c2.keep gr (by simp; omega) (by intro k hk; cases hk; omega), grown_more G2 gr (by intro k hk; cases hk; omega)⟩
end Go.Proofs.YtbellpalomiokadDoor
/-
  The contracts of the draws of facts: some fact, whatever it is, of at most five values.
-/
namespace Go.Proofs.YtbellpalomiokadDoor
open Go.RowKit
set_option linter.unusedVariables false

/-- a fact being drawn: its block F, its row of values -/
structure Drw (w0 : World) (B q F : Nat) (kd : ByteArray) (v : Value) (L : List V3) (W : World) : Prop where
  cur : Cur B W q
  box : W.heap[F]? = some (.cells #[.string kd, v] 29 (0, 0))
  row : W.ownsRow (F + 1) 61 3 v L.length (cells3 L)
  gr : w0.grownBy W (some q)
  far : q < w0.heap.size ∧ w0.heap.size < F
  res : W.heap[w0.heap.size]? = some (.cells #[.string ⟨#[]⟩, .slice none 0 0] 29 (0, 0))
  small : ∀ v ∈ L, v.S.size ≤ 21
theorem Drw.lt {w0 W : World} {B q F : Nat} {kd : ByteArray} {v : Value} {L : List V3} (h : Drw w0 B q F kd v L W) : F < W.heap.size := (Array.getElem?_eq_some_iff.1 h.box).1
theorem own_ne {W : World} {F q : Nat} {v : Value} {n : Nat} {xs : List Value} (h : W.ownsRow (F + 1) 61 3 v n xs) (hq : q ≤ F) : v.ownBlock = none ∨ v.ownBlock ≠ some q := by
  cases hv2 : v.ownBlock with
  | none => exact .inl rfl
  | some g => right; intro e; have := (h.lt g hv2).1; cases e; omega
theorem Drw.drew {w0 W : World} {B q F : Nat} {kd : ByteArray} {v : Value} {L : List V3} (h : Drw w0 B q F kd v L W) : Drw w0 B q F kd v L W.drew :=
  ⟨h.cur, h.box, h.row, ⟨h.gr.os, h.gr.tape, h.gr.output, h.gr.size, h.gr.block⟩, h.far, h.res, h.small⟩
theorem Drw.draws {w0 W W' : World} {B q F : Nat} {kd : ByteArray} {v : Value} {L : List V3} (h : Drw w0 B q F kd v L W) (c : Cur B W' q) (g : W.grownBy W' (some q)) : Drw w0 B q F kd v L W' :=
  ⟨c, box_grown h.box g (by have := h.far; omega), h.row.kept g (own_ne h.row (by have := h.far; omega)), grown_trans h.gr g, h.far, box_grown h.res g (by have := h.far; omega), h.small⟩
theorem Drw.alloc {w0 W : World} {B q F : Nat} {kd : ByteArray} {v : Value} {L : List V3} (h : Drw w0 B q F kd v L W) (o : Obj) : Drw w0 B q F kd v L (W.alloc o) :=
  ⟨h.cur.keep (World.grownBy_alloc W o none) (by simp) (by simp), box_alloc h.box o, h.row.alloc o, grown_trans h.gr (grown_alloc W o q), h.far, box_alloc h.res o, h.small⟩

theorem app3 (L : List V3) (u : V3) : cells3 L ++ [.int .i64 u.K, .int .i64 u.N, .string u.S] = cells3 (L ++ [u]) := by simp [cells3]
theorem news_src (W : World) (u : V3) : ∀ j x, ([.int .i64 u.K, .int .i64 u.N, .string u.S] : List Value)[j]? = some x → (W.alloc (.cells #[.int .i64 u.K, .int .i64 u.N, .string u.S] 61)).cell? ((⟨W.heap.size, 0, none⟩ : Addr).add j) = some x := by
  obtain ⟨h0, h1, h2, -, -, -⟩ := box_cell (box_new W (.int .i64 u.K) (.int .i64 u.N) (.string u.S) 61)
  intro j x hj
  rw [Addr.add_lit, Nat.zero_add]
  match j, hj with
  | 0, hj => rw [h0]; simpa using hj
  | 1, hj => rw [h1]; simpa using hj
  | 2, hj => rw [h2]; simpa using hj
theorem news_one (u : V3) : ∀ x ∈ ([.int .i64 u.K, .int .i64 u.N, .string u.S] : List Value), x.oneCell' = true := by
  intro x hx
  simp only [List.mem_cons, List.not_mem_nil, or_false] at hx
  rcases hx with rfl | rfl | rfl <;> rfl
/-- a value appended, and the row stored into the fact -/
theorem Drw.grew {w0 W W' : World} {B q F g cap : Nat} {kd : ByteArray} {v : Value} {L : List V3} {u : V3} (h : Drw w0 B q F kd v L W) (hu : u.S.size ≤ 21)
    (ho : W'.ownsRow (F + 1) 61 3 (.slice (some ⟨g, 0, none⟩) (L.length + 1) cap) (L.length + 1) (cells3 L ++ [.int .i64 u.K, .int .i64 u.N, .string u.S])) (hg : W.grownBy W' v.ownBlock) :
    W'.cell? ⟨F, 1, none⟩ = some v ∧ W'.frozen? ⟨F, 1, none⟩ = false ∧ Drw w0 B q F kd (.slice (some ⟨g, 0, none⟩) (L.length + 1) cap) (L ++ [u]) (W'.setCell ⟨F, 1, none⟩ (.slice (some ⟨g, 0, none⟩) (L.length + 1) cap)) := by
  have hF := h.lt
  have hne : v.ownBlock ≠ some F := by
    intro e
    have := (h.row.lt F e).1; omega
  have hb : W'.heap[F]? = some (.cells #[.string kd, v] 29 (0, 0)) := by rw [hg.block F hF (fun e => hne e.symm)]; exact h.box
  obtain ⟨-, c1, -, f1⟩ := box2_cell hb
  obtain ⟨hb2, gr2⟩ := box2_set1 hb (.slice (some ⟨g, 0, none⟩) (L.length + 1) cap)
  have hne2 : v.ownBlock ≠ some q := by
    intro e
    have := (h.row.lt q e).1
    have := h.far; omega
  have hgF : F + 1 ≤ g := (ho.lt g rfl).1
  have hne3 : v.ownBlock ≠ some w0.heap.size := by
    intro e
    have := (h.row.lt w0.heap.size e).1
    have := h.far; omega
  have hres : W'.heap[w0.heap.size]? = some (.cells #[.string ⟨#[]⟩, .slice none 0 0] 29 (0, 0)) := by rw [hg.block _ (Array.getElem?_eq_some_iff.1 h.res).1 (fun e => hne3 e.symm)]; exact h.res
  refine ⟨c1, f1, ?_, hb2, ?_, ?_, h.far, box_grown hres gr2 (by have := h.far; omega), ?_⟩
  · refine (h.cur.keep hg (fun e => hne2 e) (fun k hk => ?_)).keep gr2 (by have := h.far; simp; omega) (fun k hk => by cases hk; have := h.far; have := h.cur.1; omega)
    have := (h.row.lt k hk).1
    have := h.far; have := h.cur.1; omega
  · have := ho.kept gr2 (.inr (by simp [Value.ownBlock]; omega))
    rw [app3] at this
    rw [List.length_append]
    exact this
  · refine grown_more (grown_more h.gr hg (fun k hk => ?_)) gr2 (fun k hk => by cases hk; have := h.far; omega)
    have := (h.row.lt k hk).1
    have := h.far; omega
  · intro x hx
    rcases List.mem_append.1 hx with hx | hx
    · exact h.small x hx
    · simp only [List.mem_cons, List.not_mem_nil, or_false] at hx
      rw [hx]; exact hu

/-- some fact was drawn -/
def DrawnF (w : World) (B q : Nat) (e : Ending) (w' : World) : Prop := ∃ (kd : ByteArray) (v : Value) (L : List V3), e = .returned (.agg #[.string kd, v]) ∧ L.length ≤ 6 ∧ (kd.size ≤ 21 ∧ kd ≠ ⟨#[102, 117, 108, 108]⟩) ∧ (∀ u ∈ L, u.S.size ≤ 21) ∧ w'.ownsRow w.heap.size 61 3 v L.length (cells3 L) ∧ Cur B w' q ∧ w.grownBy w' (some q)

set_option maxRecDepth 100000 in
set_option maxHeartbeats 3200000 in
theorem l3Draw_any (B q : Nat) (w : World) (hc : Cur B w q) :
    Calls Tryd.prog 39 #[.pointer (some ⟨q, 0, none⟩)] w (DrawnF w B q) := by
  obtain ⟨i0, hi, hz0, hz1, hz2⟩ := info_parts Tryd.info61
  have hq := hc.lt
  have hB := hc.1
  go_enter Tryd.func39, Tryd.ntmps39
  go_wp2_with fail
  have G0 := grown_alloc w (.cells #[.string ⟨#[]⟩, .slice none 0 0] 29) q
  have HR0 := hide (box2_new w (.string ⟨#[]⟩) (.slice none 0 0) 29)
  have c0 : Cur B (w.alloc (.cells #[.string ⟨#[]⟩, .slice none 0 0] 29)) q := hc.keep (World.grownBy_alloc w _ none) (by simp) (by simp)
  have z0 : (w.alloc (.cells #[.string ⟨#[]⟩, .slice none 0 0] 29)).heap.size = w.heap.size + 1 := by simp
  generalize w.alloc (.cells #[.string ⟨#[]⟩, .slice none 0 0] 29) = w0 at G0 HR0 c0 z0 ⊢
  have l1 : w.heap.size < w0.heap.size := by omega
  rw [← z0]
  refine (l1Str_any B q w0.heap.size [⟨#[111, 114, 100, 101, 114]⟩, ⟨#[112, 97, 105, 100]⟩, ⟨#[105, 116, 101, 109]⟩, ⟨#[111, 114, 100, 101, 114]⟩] 4 _ (c0.keep (World.grownBy_alloc w0 _ none) (by simp) (by simp)) (by decide) (by decide) (by omega) (cells_strs w0 9 _)).mono ?_
  rintro e w1 ⟨kd, rfl, hx, c1, g1⟩
  have HR1 := hide (box_grown (box_alloc HR0.out _) g1 (by omega))
  have G1 : w.grownBy w1 (some q) := grown_trans (grown_trans G0 (grown_alloc w0 _ q)) g1
  have z1 : w.heap.size < w1.heap.size := by have := g1.size; simp at this; omega
  have HKd : Hid (kd.size ≤ 21 ∧ kd ≠ ⟨#[102, 117, 108, 108]⟩) := by
    unfold Hid
    simp only [List.mem_cons, List.not_mem_nil, or_false] at hx
    rcases hx with rfl | rfl | rfl | rfl <;> decide
  clear hx g1 c0 G0 HR0
  cases hk : (kd.toList == [105, 116, 101, 109])
  · go_wp2_with fail
    have D0 : Drw w B q w1.heap.size kd (.slice none 0 0) [] (w1.alloc (.cells #[.string kd, .slice none 0 0] 29)) := ⟨c1.keep (World.grownBy_alloc w1 _ none) (by simp) (by simp), box2_new w1 _ _ _, World.ownsRow_nil _ _ _ _, grown_trans G1 (grown_alloc w1 _ q), ⟨hq, z1⟩, box_alloc HR1.out _, fun v hv => by cases hv⟩
    refine (l1Once_any B q 12 _ D0.cur (by omega) (by omega)).mono ?_
    rintro e w2 ⟨b, rfl, c2, g2⟩
    have D1 := D0.draws c2 g2
    clear g2 c2 D0 G1 HR1
    cases b
    · have D := D1
      clear D1
      go_wp2
      obtain ⟨F, HF⟩ : ∃ F, Hid (w1.heap.size = F) := ⟨_, rfl⟩
      rw [HF.out] at D ⊢
      clear HF
      go_loopw [5] (fun i wr => ∃ (k : Nat) (v : Value) (L : List V3), L.length = k ∧ (k : Int) ≤ 1 ∧ i = .int .i64 k ∧ Drw w B q F kd v L wr) (fun i _ => (1 - intOf i).toNat)
      case atStart => exact ⟨0, _, [], rfl, by omega, rfl, D⟩
      case round =>
        obtain ⟨k, v, L, rfl, hk, rfl, D2⟩ := hrel
        clear D
        by_cases hlt : (L.length : Int) < 1
        · obtain ⟨-, c1', -, f1'⟩ := box2_cell D2.box
          have HD := hide D2
          clear D2
          go_wp2_with fail
          go_region_law (first
            | (refine step_append_lies _ rfl (.tmp 23) (.tmp 26) 27 rfl (F + 1) 61 i0 (.agg #[.int .i64 0, .int .i64 0, .string ⟨#[]⟩]) 3 32 Tryd.underlying27 hi hz0 hz1 hz2 rfl (by omega) v L.length (cells3 L) (by simp [Act.eval]) (D3.alloc _).row ⟨w3.heap.size, 0, none⟩ 1 1 [.int .i64 u.K, .int .i64 u.N, .string u.S] (by simp [Act.eval]) rfl (news_src w3 u) (news_one u) (by omega) (by unfold maxLen; omega) (by omega) (by have := D3.lt; simp; omega) _ rfl ?_; intro g cap w4 ho4 hg4 hat4 hlt4; obtain ⟨x1, y1, D4⟩ := (D3.alloc _).grew hu ho4 hg4)
            | (rw [if_pos (by simp [Region.wanted])]; go_simp; go_at_call 55; refine (l3Small_any B q _ HD.out.drew.cur).mono ?_; rintro e w3 ⟨u, rfl, hu, c3, g3⟩; have D3 := HD.out.drew.draws c3 g3; obtain ⟨-, c3', -, f3'⟩ := box2_cell D3.box; obtain ⟨-, c3'', -, f3''⟩ := box2_cell (D3.alloc (.cells #[.int .i64 u.K, .int .i64 u.N, .string u.S] 61)).box))
          all_goals
            have HD4 := hide D4
            clear c1' f1' c3' f3' c3'' f3'' x1 y1 D3 D4 HD
            go_wp2
            go_roundw
            case rel => exact ⟨L.length + 1, _, L ++ [u], by simp, by omega, by go_num, HD4.out⟩
            case measure => simp [intOf]; omega
        · obtain ⟨c0', c1', -, -⟩ := box2_cell D2.box
          obtain ⟨r0, r1, rf0, rf1⟩ := box2_cell D2.res
          obtain ⟨a, n, cp, hv⟩ : ∃ a n cp, v = .slice a n cp := by
            rcases D2.row.2 with ⟨h, _⟩ | ⟨g, cp, _, h, _⟩
            · exact ⟨_, _, _, h⟩
            · exact ⟨_, _, _, h⟩
          subst hv
          have HD := hide D2
          clear D2
          go_wp2
          refine box2_post HD.out.res (fun w9 h9 gr => ?_)
          clear c0' c1' r0 r1 rf0 rf1
          obtain ⟨c0', c1', -, -⟩ := box2_cell h9
          have far := HD.out.far
          exact bodyPost_ret (v := .agg #[.string kd, .slice a n cp]) (by simp [results, Tryd.results39, go_sem, c0', c1']) rfl ⟨kd, _, L, rfl, by omega, HKd.out, HD.out.small, owns_base (HD.out.row.kept gr (own_ne HD.out.row (by omega))) (by omega), HD.out.cur.keep gr (by simp; omega) (fun k hk => by cases hk; omega), grown_more HD.out.gr gr (fun k hk => by cases hk; exact Nat.le_refl _)⟩
    · go_wp2_with fail
      refine (l1Below_any B q 6 _ D1.cur (by omega) (by omega)).mono ?_
      rintro e w3 ⟨N, rfl, x0, x1, c3, g3⟩
      have D := D1.draws c3 g3
      clear g3 c3 D1
      go_wp2
      obtain ⟨F, HF⟩ : ∃ F, Hid (w1.heap.size = F) := ⟨_, rfl⟩
      rw [HF.out] at D ⊢
      clear HF
      go_loopw [5] (fun i wr => ∃ (k : Nat) (v : Value) (L : List V3), L.length = k ∧ (k : Int) ≤ N ∧ i = .int .i64 k ∧ Drw w B q F kd v L wr) (fun i _ => (N - intOf i).toNat)
      case atStart => exact ⟨0, _, [], rfl, by omega, rfl, D⟩
      case round =>
        obtain ⟨k, v, L, rfl, hk, rfl, D2⟩ := hrel
        clear D
        by_cases hlt : (L.length : Int) < N
        · obtain ⟨-, c1', -, f1'⟩ := box2_cell D2.box
          have HD := hide D2
          clear D2
          go_wp2_with fail
          go_region_law (first
            | (refine step_append_lies _ rfl (.tmp 23) (.tmp 26) 27 rfl (F + 1) 61 i0 (.agg #[.int .i64 0, .int .i64 0, .string ⟨#[]⟩]) 3 32 Tryd.underlying27 hi hz0 hz1 hz2 rfl (by omega) v L.length (cells3 L) (by simp [Act.eval]) (D3.alloc _).row ⟨w3.heap.size, 0, none⟩ 1 1 [.int .i64 u.K, .int .i64 u.N, .string u.S] (by simp [Act.eval]) rfl (news_src w3 u) (news_one u) (by omega) (by unfold maxLen; omega) (by omega) (by have := D3.lt; simp; omega) _ rfl ?_; intro g cap w4 ho4 hg4 hat4 hlt4; obtain ⟨x1, y1, D4⟩ := (D3.alloc _).grew hu ho4 hg4)
            | (rw [if_pos (by simp [Region.wanted])]; go_simp; go_at_call 55; refine (l3Small_any B q _ HD.out.drew.cur).mono ?_; rintro e w3 ⟨u, rfl, hu, c3, g3⟩; have D3 := HD.out.drew.draws c3 g3; obtain ⟨-, c3', -, f3'⟩ := box2_cell D3.box; obtain ⟨-, c3'', -, f3''⟩ := box2_cell (D3.alloc (.cells #[.int .i64 u.K, .int .i64 u.N, .string u.S] 61)).box))
          all_goals
            have HD4 := hide D4
            clear c1' f1' c3' f3' c3'' f3'' x1 y1 D3 D4 HD
            go_wp2
            go_roundw
            case rel => exact ⟨L.length + 1, _, L ++ [u], by simp, by omega, by go_num, HD4.out⟩
            case measure => simp [intOf]; omega
        · obtain ⟨c0', c1', -, -⟩ := box2_cell D2.box
          obtain ⟨r0, r1, rf0, rf1⟩ := box2_cell D2.res
          obtain ⟨a, n, cp, hv⟩ : ∃ a n cp, v = .slice a n cp := by
            rcases D2.row.2 with ⟨h, _⟩ | ⟨g, cp, _, h, _⟩
            · exact ⟨_, _, _, h⟩
            · exact ⟨_, _, _, h⟩
          subst hv
          have HD := hide D2
          clear D2
          go_wp2
          refine box2_post HD.out.res (fun w9 h9 gr => ?_)
          clear c0' c1' r0 r1 rf0 rf1
          obtain ⟨c0', c1', -, -⟩ := box2_cell h9
          have far := HD.out.far
          exact bodyPost_ret (v := .agg #[.string kd, .slice a n cp]) (by simp [results, Tryd.results39, go_sem, c0', c1']) rfl ⟨kd, _, L, rfl, by omega, HKd.out, HD.out.small, owns_base (HD.out.row.kept gr (own_ne HD.out.row (by omega))) (by omega), HD.out.cur.keep gr (by simp; omega) (fun k hk => by cases hk; omega), grown_more HD.out.gr gr (fun k hk => by cases hk; exact Nat.le_refl _)⟩
  · go_wp2_with fail
    have D0 : Drw w B q w1.heap.size kd (.slice none 0 0) [] (w1.alloc (.cells #[.string kd, .slice none 0 0] 29)) := ⟨c1.keep (World.grownBy_alloc w1 _ none) (by simp) (by simp), box2_new w1 _ _ _, World.ownsRow_nil _ _ _ _, grown_trans G1 (grown_alloc w1 _ q), ⟨hq, z1⟩, box_alloc HR1.out _, fun v hv => by cases hv⟩
    refine (l1Once_any B q 12 _ D0.cur (by omega) (by omega)).mono ?_
    rintro e w2 ⟨b, rfl, c2, g2⟩
    have D1 := D0.draws c2 g2
    clear g2 c2 D0 G1 HR1
    cases b
    · have D := D1
      clear D1
      go_wp2
      obtain ⟨F, HF⟩ : ∃ F, Hid (w1.heap.size = F) := ⟨_, rfl⟩
      rw [HF.out] at D ⊢
      clear HF
      go_loopw [5] (fun i wr => ∃ (k : Nat) (v : Value) (L : List V3), L.length = k ∧ (k : Int) ≤ 2 ∧ i = .int .i64 k ∧ Drw w B q F kd v L wr) (fun i _ => (2 - intOf i).toNat)
      case atStart => exact ⟨0, _, [], rfl, by omega, rfl, D⟩
      case round =>
        obtain ⟨k, v, L, rfl, hk, rfl, D2⟩ := hrel
        clear D
        by_cases hlt : (L.length : Int) < 2
        · obtain ⟨-, c1', -, f1'⟩ := box2_cell D2.box
          have HD := hide D2
          clear D2
          go_wp2_with fail
          go_region_law (first
            | (refine step_append_lies _ rfl (.tmp 23) (.tmp 26) 27 rfl (F + 1) 61 i0 (.agg #[.int .i64 0, .int .i64 0, .string ⟨#[]⟩]) 3 32 Tryd.underlying27 hi hz0 hz1 hz2 rfl (by omega) v L.length (cells3 L) (by simp [Act.eval]) (D3.alloc _).row ⟨w3.heap.size, 0, none⟩ 1 1 [.int .i64 u.K, .int .i64 u.N, .string u.S] (by simp [Act.eval]) rfl (news_src w3 u) (news_one u) (by omega) (by unfold maxLen; omega) (by omega) (by have := D3.lt; simp; omega) _ rfl ?_; intro g cap w4 ho4 hg4 hat4 hlt4; obtain ⟨x1, y1, D4⟩ := (D3.alloc _).grew hu ho4 hg4)
            | (rw [if_pos (by simp [Region.wanted])]; go_simp; go_at_call 55; refine (l3Small_any B q _ HD.out.drew.cur).mono ?_; rintro e w3 ⟨u, rfl, hu, c3, g3⟩; have D3 := HD.out.drew.draws c3 g3; obtain ⟨-, c3', -, f3'⟩ := box2_cell D3.box; obtain ⟨-, c3'', -, f3''⟩ := box2_cell (D3.alloc (.cells #[.int .i64 u.K, .int .i64 u.N, .string u.S] 61)).box))
          all_goals
            have HD4 := hide D4
            clear c1' f1' c3' f3' c3'' f3'' x1 y1 D3 D4 HD
            go_wp2
            go_roundw
            case rel => exact ⟨L.length + 1, _, L ++ [u], by simp, by omega, by go_num, HD4.out⟩
            case measure => simp [intOf]; omega
        · obtain ⟨c0', c1', -, -⟩ := box2_cell D2.box
          obtain ⟨r0, r1, rf0, rf1⟩ := box2_cell D2.res
          obtain ⟨a, n, cp, hv⟩ : ∃ a n cp, v = .slice a n cp := by
            rcases D2.row.2 with ⟨h, _⟩ | ⟨g, cp, _, h, _⟩
            · exact ⟨_, _, _, h⟩
            · exact ⟨_, _, _, h⟩
          subst hv
          have HD := hide D2
          clear D2
          go_wp2
          refine box2_post HD.out.res (fun w9 h9 gr => ?_)
          clear c0' c1' r0 r1 rf0 rf1
          obtain ⟨c0', c1', -, -⟩ := box2_cell h9
          have far := HD.out.far
          exact bodyPost_ret (v := .agg #[.string kd, .slice a n cp]) (by simp [results, Tryd.results39, go_sem, c0', c1']) rfl ⟨kd, _, L, rfl, by omega, HKd.out, HD.out.small, owns_base (HD.out.row.kept gr (own_ne HD.out.row (by omega))) (by omega), HD.out.cur.keep gr (by simp; omega) (fun k hk => by cases hk; omega), grown_more HD.out.gr gr (fun k hk => by cases hk; exact Nat.le_refl _)⟩
    · go_wp2_with fail
      refine (l1Below_any B q 6 _ D1.cur (by omega) (by omega)).mono ?_
      rintro e w3 ⟨N, rfl, x0, x1, c3, g3⟩
      have D := D1.draws c3 g3
      clear g3 c3 D1
      go_wp2
      obtain ⟨F, HF⟩ : ∃ F, Hid (w1.heap.size = F) := ⟨_, rfl⟩
      rw [HF.out] at D ⊢
      clear HF
      go_loopw [5] (fun i wr => ∃ (k : Nat) (v : Value) (L : List V3), L.length = k ∧ (k : Int) ≤ N ∧ i = .int .i64 k ∧ Drw w B q F kd v L wr) (fun i _ => (N - intOf i).toNat)
      case atStart => exact ⟨0, _, [], rfl, by omega, rfl, D⟩
      case round =>
        obtain ⟨k, v, L, rfl, hk, rfl, D2⟩ := hrel
        clear D
        by_cases hlt : (L.length : Int) < N
        · obtain ⟨-, c1', -, f1'⟩ := box2_cell D2.box
          have HD := hide D2
          clear D2
          go_wp2_with fail
          go_region_law (first
            | (refine step_append_lies _ rfl (.tmp 23) (.tmp 26) 27 rfl (F + 1) 61 i0 (.agg #[.int .i64 0, .int .i64 0, .string ⟨#[]⟩]) 3 32 Tryd.underlying27 hi hz0 hz1 hz2 rfl (by omega) v L.length (cells3 L) (by simp [Act.eval]) (D3.alloc _).row ⟨w3.heap.size, 0, none⟩ 1 1 [.int .i64 u.K, .int .i64 u.N, .string u.S] (by simp [Act.eval]) rfl (news_src w3 u) (news_one u) (by omega) (by unfold maxLen; omega) (by omega) (by have := D3.lt; simp; omega) _ rfl ?_; intro g cap w4 ho4 hg4 hat4 hlt4; obtain ⟨x1, y1, D4⟩ := (D3.alloc _).grew hu ho4 hg4)
            | (rw [if_pos (by simp [Region.wanted])]; go_simp; go_at_call 55; refine (l3Small_any B q _ HD.out.drew.cur).mono ?_; rintro e w3 ⟨u, rfl, hu, c3, g3⟩; have D3 := HD.out.drew.draws c3 g3; obtain ⟨-, c3', -, f3'⟩ := box2_cell D3.box; obtain ⟨-, c3'', -, f3''⟩ := box2_cell (D3.alloc (.cells #[.int .i64 u.K, .int .i64 u.N, .string u.S] 61)).box))
          all_goals
            have HD4 := hide D4
            clear c1' f1' c3' f3' c3'' f3'' x1 y1 D3 D4 HD
            go_wp2
            go_roundw
            case rel => exact ⟨L.length + 1, _, L ++ [u], by simp, by omega, by go_num, HD4.out⟩
            case measure => simp [intOf]; omega
        · obtain ⟨c0', c1', -, -⟩ := box2_cell D2.box
          obtain ⟨r0, r1, rf0, rf1⟩ := box2_cell D2.res
          obtain ⟨a, n, cp, hv⟩ : ∃ a n cp, v = .slice a n cp := by
            rcases D2.row.2 with ⟨h, _⟩ | ⟨g, cp, _, h, _⟩
            · exact ⟨_, _, _, h⟩
            · exact ⟨_, _, _, h⟩
          subst hv
          have HD := hide D2
          clear D2
          go_wp2
          refine box2_post HD.out.res (fun w9 h9 gr => ?_)
          clear c0' c1' r0 r1 rf0 rf1
          obtain ⟨c0', c1', -, -⟩ := box2_cell h9
          have far := HD.out.far
          exact bodyPost_ret (v := .agg #[.string kd, .slice a n cp]) (by simp [results, Tryd.results39, go_sem, c0', c1']) rfl ⟨kd, _, L, rfl, by omega, HKd.out, HD.out.small, owns_base (HD.out.row.kept gr (own_ne HD.out.row (by omega))) (by omega), HD.out.cur.keep gr (by simp; omega) (fun k hk => by cases hk; omega), grown_more HD.out.gr gr (fun k hk => by cases hk; exact Nat.le_refl _)⟩
end Go.Proofs.YtbellpalomiokadDoor
/-
  A store that is drawn: its block, its items, the cursor; the model's l4Draw.
-/
namespace Go.Proofs.YtbellpalomiokadDoor
open Go.RowKit
set_option linter.unusedVariables false

theorem Cur.low {B q lo : Nat} {w w' : World} (h : Cur B w q) (hb : Below lo w w') (hq : q < lo) : Cur B w' q := by
  obtain ⟨h0, a, cap, code, i, hh, h1, h2, h3, h4⟩ := h
  exact ⟨h0, a, cap, code, i, hh, h1, h2, h3.below (hb.mono (by omega)), by rw [hb.block q hq]; exact h4⟩
theorem grown_low {w0 w w' : World} {q lo : Nat} (h : w0.grownBy w (some q)) (hb : Below lo w w') (hl : w0.heap.size ≤ lo) : w0.grownBy w' (some q) :=
  ⟨hb.os.trans h.os, hb.tape.trans h.tape, hb.output.trans h.output, Nat.le_trans h.size hb.size, fun i hi hne => (hb.block i (by omega)).trans (h.block i hi hne)⟩
/-- an item of short texts, plainly -/
def SmP (x : P4) : Prop := x.kd.size ≤ 21 ∧ x.L.length ≤ 8 ∧ ∀ v ∈ x.L, v.S.size ≤ 21
/-- a store on the way: its block p, its items above the answer's block -/
structure SD (w0 : World) (B q p : Nat) (va : Option Addr) (vc : Nat) (nx : Int) (K : List It) (W : World) : Prop where
  cur : Cur B W q
  box : W.heap[p]? = some (.cells #[.slice va K.length vc, .int .i64 nx] 26 (0, 0))
  row : HV W (w0.heap.size + 1) K.length va vc K
  gr : w0.grownBy W (some q)
  far : q < w0.heap.size ∧ w0.heap.size < p
  res : W.heap[w0.heap.size]? = some (.cells #[.slice none 0 0, .int .i64 0] 26 (0, 0))
  small : ∀ x ∈ K.map It.pl, SmP x
  len : K.length ≤ 40
  nx0 : 0 ≤ nx
theorem SD.lt {w0 W : World} {B q p vc : Nat} {va : Option Addr} {nx : Int} {K : List It} (h : SD w0 B q p va vc nx K W) : p < W.heap.size := (Array.getElem?_eq_some_iff.1 h.box).1
theorem SD.drew {w0 W : World} {B q p vc : Nat} {va : Option Addr} {nx : Int} {K : List It} (h : SD w0 B q p va vc nx K W) : SD w0 B q p va vc nx K W.drew :=
  ⟨h.cur, h.box, h.row.later ((Below.refl _ _).drew), ⟨h.gr.os, h.gr.tape, h.gr.output, h.gr.size, h.gr.block⟩, h.far, h.res, h.small, h.len, h.nx0⟩
theorem SD.draws {w0 W W' : World} {B q p vc : Nat} {va : Option Addr} {nx : Int} {K : List It} (h : SD w0 B q p va vc nx K W) (c : Cur B W' q) (g : W.grownBy W' (some q)) : SD w0 B q p va vc nx K W' :=
  ⟨c, box_grown h.box g (by have := h.far; omega), h.row.grown g (by have := h.far; omega), grown_trans h.gr g, h.far, box_grown h.res g (by have := h.far; omega), h.small, h.len, h.nx0⟩
theorem SD.later {w0 W W' : World} {B q p vc : Nat} {va : Option Addr} {nx : Int} {K : List It} (h : SD w0 B q p va vc nx K W) (hb : Below W.heap.size W W') : SD w0 B q p va vc nx K W' :=
  ⟨h.cur.low hb h.cur.lt, box_step h.box hb, h.row.later hb, grown_low h.gr hb h.gr.size, h.far, box_step h.res hb, h.small, h.len, h.nx0⟩
theorem SD.rows {w0 W : World} {B q p vc : Nat} {va : Option Addr} {nx : Int} {K : List It} (h : SD w0 B q p va vc nx K W) : ∀ i, i < K.length → (iAt K i).L.length ≤ 1048580 := fun i hi => by
  have := (h.small (iAt K i).pl (List.mem_map.2 ⟨_, by rw [iAt_in hi]; exact List.getElem_mem hi, rfl⟩)).2.1
  show (iAt K i).pl.L.length ≤ _
  omega
theorem SD.cellId {w0 W : World} {B q p vc g : Nat} {nx : Int} {K : List It} (h : SD w0 B q p (some ⟨g, 0, none⟩) vc nx K W) {j : Nat} (hj : j < K.length) : W.cell? ⟨g, j * 3, none⟩ = some (.int .i64 (iAt K j).id) := by
  obtain ⟨b, off, e, -, hc⟩ := h.row.rd.open (by omega)
  simp only [Option.some.injEq, Addr.mk.injEq] at e
  obtain ⟨rfl, rfl, -⟩ := e
  have := (hc j hj).1
  rwa [Nat.zero_add] at this
/-- what asserting leaves -/
theorem SD.asserted {w0 W W' : World} {B q p vc vc' : Nat} {va va' : Option Addr} {nx : Int} {K K' : List It} {kd : ByteArray} {M : List V3} (h : SD w0 B q p va vc nx K W) (hs : SmP ⟨nx, kd, M⟩)
    (hbox : W'.heap[p]? = some (.cells #[.slice va' K'.length vc', .int .i64 (assP (K.map It.pl) nx kd M).2.1] 26 (0, 0))) (hhv : HV W' (w0.heap.size + 1) K'.length va' vc' K')
    (hpl : K'.map It.pl = (assP (K.map It.pl) nx kd M).2.2) (hb : Below (w0.heap.size + 1) W W') :
    SD w0 B q p va' vc' (assP (K.map It.pl) nx kd M).2.1 K' W' := by
  have far := h.far
  have hl : K'.length = (assP (K.map It.pl) nx kd M).2.2.length := by rw [← hpl, List.length_map]
  have hn0 := h.nx0
  have hl0 := h.len
  refine ⟨h.cur.low hb (by omega), hbox, hhv, grown_low h.gr hb (by omega), far, by rw [hb.block _ (by omega)]; exact h.res, ?_, ?_, ?_⟩
  · rw [hpl]
    unfold assP
    split
    · exact h.small
    · split
      · exact h.small
      · intro x hx
        rcases List.mem_append.1 hx with hx | hx
        · exact h.small x hx
        · simp only [List.mem_cons, List.not_mem_nil, or_false] at hx
          rw [hx]; exact hs
  · rw [hl]
    unfold assP
    split
    · rw [List.length_map]; exact hl0
    · split
      · rw [List.length_map]; exact hl0
      · rename_i h1
        rw [List.length_map] at h1
        simp only [List.length_append, List.length_map, List.length_cons, List.length_nil]
        omega
  · unfold assP
    split
    · exact hn0
    · split
      · exact hn0
      · show 0 ≤ nx + 1
        omega
/-- what dropping leaves -/
theorem SD.dropped {w0 W W' : World} {B q p vc vc' g' : Nat} {va : Option Addr} {nx id : Int} {K : List It} (h : SD w0 B q p va vc nx K W)
    (hbox : W'.heap[p]? = some (.cells #[.slice (some ⟨g', 0, none⟩) (dropP K id).length vc', .int .i64 nx] 26 (0, 0))) (hho : HoldsI W' (w0.heap.size + 1) g' vc' (dropP K id)) (hb : Below (w0.heap.size + 1) W W') :
    SD w0 B q p (some ⟨g', 0, none⟩) vc' nx (dropP K id) W' := by
  have far := h.far
  have hl := dropP_len K id
  have hl0 := h.len
  exact ⟨h.cur.low hb (by omega), hbox, .inr ⟨g', rfl, hho⟩, grown_low h.gr hb (by omega), far, by rw [hb.block _ (by omega)]; exact h.res, fun x hx => by
    obtain ⟨y, hy, rfl⟩ := List.mem_map.1 hx
    exact h.small _ (List.mem_map.2 ⟨y, dropP_mem hy, rfl⟩), by omega, h.nx0⟩
/-- the facts of drawn items have no kind of that name -/
def NoFull (K : List It) : Prop := ∀ x ∈ K.map It.pl, x.kd ≠ ⟨#[102, 117, 108, 108]⟩
theorem NoFull.asserted {K K' : List It} {nx : Int} {kd : ByteArray} {M : List V3} (h : NoFull K) (hk : kd ≠ ⟨#[102, 117, 108, 108]⟩) (hpl : K'.map It.pl = (assP (K.map It.pl) nx kd M).2.2) : NoFull K' := by
  unfold NoFull
  rw [hpl]
  unfold assP
  split
  · exact h
  · split
    · exact h
    · intro x hx
      rcases List.mem_append.1 hx with hx | hx
      · exact h x hx
      · simp only [List.mem_cons, List.not_mem_nil, or_false] at hx
        rw [hx]; exact hk
theorem assP_nx (K : List P4) (nx : Int) (kd : ByteArray) (M : List V3) : (assP K nx kd M).2.1 ≤ nx + 1 := by
  unfold assP
  split
  · show nx ≤ nx + 1; omega
  · split
    · show nx ≤ nx + 1; omega
    · exact Int.le_refl _

/-- some store was drawn -/
def DrawnS (w : World) (B q : Nat) (e : Ending) (w' : World) : Prop := ∃ (va : Option Addr) (vc : Nat) (nx : Int) (K : List It), e = .returned (.agg #[.slice va K.length vc, .int .i64 nx]) ∧ K.length ≤ 40 ∧ (∀ x ∈ K.map It.pl, SmP x) ∧ NoFull K ∧ 0 ≤ nx ∧ nx ≤ 9 ∧ HV w' (w.heap.size + 1) K.length va vc K ∧ Cur B w' q ∧ w.grownBy w' (some q)

set_option maxRecDepth 100000 in
set_option maxHeartbeats 6400000 in
theorem l4Draw_any (B q : Nat) (w : World) (hc : Cur B w q) :
    Calls Tryd.prog 36 #[.pointer (some ⟨q, 0, none⟩)] w (DrawnS w B q) := by
  have hq := hc.lt
  have hB := hc.1
  go_enter Tryd.func36, Tryd.ntmps36
  go_wp2_with fail
  have D0 : SD w B q (w.heap.size + 1) none 0 1 [] ((w.alloc (.cells #[.slice none 0 0, .int .i64 0] 26)).alloc (.cells #[.slice none 0 0, .int .i64 1] 26)) := by
    have h1 := box2_new (w.alloc (.cells #[.slice none 0 0, .int .i64 0] 26)) (.slice none 0 0) (.int .i64 1) 26
    simp only [World.size_alloc] at h1
    exact ⟨(hc.keep (World.grownBy_alloc w _ none) (by simp) (by simp)).keep (World.grownBy_alloc _ _ none) (by simp) (by simp), h1, .inl ⟨rfl, rfl, rfl, rfl⟩, grown_trans (grown_alloc w _ q) (grown_alloc _ _ q), ⟨hq, by omega⟩, box_alloc (box2_new w _ _ _) _, (fun x hx => by cases hx), by simp, by omega⟩
  generalize (w.alloc (.cells #[.slice none 0 0, .int .i64 0] 26)).alloc (.cells #[.slice none 0 0, .int .i64 1] 26) = w0 at D0 ⊢
  refine (l1Below_any B q 9 _ D0.cur (by omega) (by omega)).mono ?_
  rintro e w1 ⟨x, rfl, x0, x1, c1, g1⟩
  have D1 := D0.draws c1 g1
  obtain ⟨n, rfl⟩ := Int.eq_ofNat_of_zero_le x0
  have hn8 : n ≤ 8 := by omega
  clear D0 c1 g1 x0 x1 hc
  obtain ⟨p, HPp⟩ : ∃ p, Hid (w.heap.size + 1 = p) := ⟨_, rfl⟩
  rw [HPp.out] at D1 ⊢
  clear HPp
  go_wp2
  go_loopw [4] (fun i wr => ∃ (k : Nat) (va : Option Addr) (vc : Nat) (nx : Int) (K : List It), i = .int .i64 k ∧ nx + k ≤ 9 ∧ k ≤ 8 ∧ NoFull K ∧ SD w B q p va vc nx K wr) (fun i _ => (intOf i).toNat)
  case atStart => exact ⟨n, none, 0, 1, [], rfl, by omega, hn8, (fun x hx => by cases hx), D1⟩
  case round =>
    clear D1
    obtain ⟨k, va, vc, nx, K, rfl, hnk, hk8, hnf, D⟩ := hrel
    have HNF := hide hnf
    clear hnf
    by_cases hlt : 0 < k
    · have hk1 : (0 : Int) < (k : Int) := by omega
      go_wp2_with fail
      refine (l1Once_any B q 5 _ D.cur (by omega) (by omega)).mono ?_
      rintro e w2 ⟨bb, rfl, c2, g2⟩
      have HD2 := hide (D.draws c2 g2)
      clear c2 g2 D
      obtain ⟨p0, p1, pf0, pf1⟩ := box2_cell HD2.out.box
      have hl40 := HD2.out.len
      by_cases hgo : bb = true ∧ 0 < K.length
      · obtain ⟨rfl, hKp⟩ := hgo
        obtain ⟨g, hva⟩ : ∃ g, va = some ⟨g, 0, none⟩ := by
          rcases HD2.out.row with ⟨h, -⟩ | ⟨g, h, -⟩
          · omega
          · exact ⟨g, h⟩
        subst hva
        have hl1 : (0 : Int) < (K.length : Int) := by omega
        go_wp2_with fail
        go_region_with (first
          | (go_at_call 37; refine (l1Below_any B q (K.length : Int) _ HD2.out.drew.cur (by omega) (by omega)).mono ?_; rintro e w3 ⟨x, rfl, x0, x1, c3, g3⟩; obtain ⟨j, rfl⟩ := Int.eq_ofNat_of_zero_le x0; have D3 := HD2.out.drew.draws c3 g3; obtain ⟨t0, -, -, -⟩ := box2_cell D3.box; have hd := D3.cellId (show j < K.length by omega))
          | (go_at_call 53; refine (l4Drop_any p (w.heap.size + 1) K.length vc _ nx _ K _ D3.box D3.row rfl (by omega) (by have := D3.far; omega) (by have := D3.far; have := D3.lt; omega)).mono ?_; rintro e w4 ⟨⟨b4, rfl⟩, g', vc', hbx, hho, hbl⟩))
        all_goals
          have HD4 := hide (D3.dropped hbx hho hbl)
          have HN4 : Hid (NoFull (dropP K (iAt K j).id)) := fun x hx => by
            obtain ⟨y, hy, rfl⟩ := List.mem_map.1 hx
            exact HNF.out _ (List.mem_map.2 ⟨y, dropP_mem hy, rfl⟩)
          clear hbx hho hbl D3 t0 hd p0 p1 pf0 pf1 HD2
          go_wp2
          go_roundw
          case rel => exact ⟨k - 1, _, _, nx, _, by go_num, by omega, by omega, HN4.out, HD4.out⟩
          case measure => simp [intOf]; omega
      · have hcs : bb = false ∨ (bb = true ∧ K.length = 0) := by
          cases bb
          · exact .inl rfl
          · exact .inr ⟨rfl, by
              by_cases h : 0 < K.length
              · exact absurd ⟨rfl, h⟩ hgo
              · omega⟩
        clear hgo
        rcases hcs with rfl | ⟨rfl, hK0⟩
        case' inr => have hl1 : ¬ (0 : Int) < (K.length : Int) := by omega
        all_goals
          go_wp2_with fail
          refine (l3Draw_any B q _ HD2.out.cur).mono ?_
          rintro e w3 ⟨kd, v, L, rfl, hL, ⟨hkd, hnf⟩, hsm, o3, c3, g3⟩
          have HD3 := hide (HD2.out.draws c3 g3)
          obtain ⟨a', c', rfl, rV, -, -, -⟩ := rdV_owns o3
          have HSmL := hide hsm
          have HNk := hide hnf
          clear c3 g3 o3 hsm hnf p0 p1 pf0 pf1 HD2
          go_wp2_with fail
          refine (l4Assert_any p (w.heap.size + 1) K.length vc c' va a' nx kd K L _ HD3.out.box HD3.out.row rfl (by omega) HD3.out.rows rV (by omega) (by have := HD3.out.far; omega) (by have := HD3.out.far; have := HD3.out.lt; omega) HD3.out.nx0).mono ?_
          rintro e w4 ⟨rfl, va', vc', K', hbx, hhv, hpl, hbl⟩
          have HD4 := hide (HD3.out.asserted ⟨hkd, by show L.length ≤ 8; omega, HSmL.out⟩ hbx hhv hpl hbl)
          have HN4 := hide (HNF.out.asserted HNk.out hpl)
          have hnx := assP_nx (K.map It.pl) nx kd L
          clear hbx hhv hpl hbl HD3 rV HNk HSmL
          generalize (assP (K.map It.pl) nx kd L).2.1 = nx' at HD4 hnx
          generalize (assP (K.map It.pl) nx kd L).1 = rr
          go_wp2
          go_roundw
          case rel => exact ⟨k - 1, va', vc', nx', K', by go_num, by omega, by omega, HN4.out, HD4.out⟩
          case measure => simp [intOf]; omega
    · obtain rfl : k = 0 := by omega
      obtain ⟨p0, p1, -, -⟩ := box2_cell D.box
      obtain ⟨r0, r1, rf0, rf1⟩ := box2_cell D.res
      have HD := hide D
      clear D
      go_wp2
      refine box2_post HD.out.res (fun w9 h9 gr => ?_)
      clear p0 p1 r0 r1 rf0 rf1
      obtain ⟨d0, d1, -, -⟩ := box2_cell h9
      have far := HD.out.far
      have hB2 := HD.out.cur.1
      exact bodyPost_ret (v := .agg #[.slice va K.length vc, .int .i64 nx]) (by simp [results, Tryd.results36, go_sem, d0, d1]) rfl ⟨va, vc, nx, K, rfl, HD.out.len, HD.out.small, HNF.out, HD.out.nx0, by omega, HD.out.row.grown gr (by omega), HD.out.cur.keep gr (by simp; omega) (fun k hk => by cases hk; omega), grown_more HD.out.gr gr (fun k hk => by cases hk; exact Nat.le_refl _)⟩
end Go.Proofs.YtbellpalomiokadDoor
