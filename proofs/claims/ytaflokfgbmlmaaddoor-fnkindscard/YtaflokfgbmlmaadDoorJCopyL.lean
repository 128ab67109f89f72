/-
  The model's copy of a store: its items in a block of the call's own (none where there are none), their lists each in its own.
-/
import Derived.Test.YtaflokfgbmlmaadDoorJCopyI
namespace Go.Proofs.YtaflokfgbmlmaadDoor
open Go.RowKit
set_option linter.unusedVariables false

/-- as rebase, below lo nothing is asked -/
theorem Copied.rebase2 {w w' : World} {lo g g' : Nat} {J K : List It} {k : Nat} (h : Copied w lo g J K k) (hk : ∀ q, lo ≤ q → q < w.heap.size → q ≠ g → w'.heap[q]? = w.heap[q]?) (hg : g' = g ∨ w.heap.size ≤ g') : Copied w' lo g' J K k := by
  refine ⟨fun i hi => ?_, h.2⟩
  obtain ⟨h1, h2, h3⟩ := h.1 i hi
  refine ⟨h1, fun hne => ?_, h3⟩
  obtain ⟨q, e, hl, hq, o⟩ := h2 hne
  have hlt := o.lt
  refine ⟨q, e, hl, by rcases hg with rfl | hg; exact hq; omega, ?_⟩
  exact ownsRow_sameB o (fun j hj => by simp only [Value.ownBlock, Option.some.injEq] at hj; rw [← hj]; exact hk q hl hlt hq)
/-- a store's items, in a block of the call's own or none at all -/
def GivesS (w : World) (lo : Nat) (v : Value) (n : Nat) (K : List It) : Prop := (n = 0 ∧ K = [] ∧ v = .slice none 0 0) ∨ ∃ g cp, v = .slice (some ⟨g, 0, none⟩) n cp ∧ HoldsI w lo g cp K
theorem sI5 {w W : World} {b off n cap k : Nat} {nx : Int} {J : List It} {x : It} (hA : W.heap[w.heap.size]? = some (.cells #[.slice (some ⟨b, off, none⟩) n cap, .int .i64 nx] 29 (0, 0))) (hr : RdI w (some ⟨b, off, none⟩) J) (hB : Below w.heap.size w W) (hk : k < J.length) (hx : x = iAt J k) :
    W.cell? ⟨w.heap.size, 0, none⟩ = some (.slice (some ⟨b, off, none⟩) n cap) ∧ W.cell? ⟨b, off + k * 3, none⟩ = some (.int .i64 x.id) ∧ W.cell? ⟨b, off + k * 3 + 1, none⟩ = some (.string x.kd) ∧ W.cell? ⟨b, off + k * 3 + 2, none⟩ = some (.slice x.a x.L.length x.cap) := by
  obtain ⟨b2, off2, e, h0, h1, h2, -⟩ := hr.below hB k hk
  simp only [Option.some.injEq, Addr.mk.injEq] at e
  obtain ⟨rfl, rfl, -⟩ := e
  rw [hx]
  exact ⟨(box2_cell hA).1, h0, h1, h2⟩
theorem sI {w wr W : World} {b off n cap k q : Nat} {nx : Int} {J : List It} {x : It} {o : Obj} (hA : wr.heap[w.heap.size]? = some (.cells #[.slice (some ⟨b, off, none⟩) n cap, .int .i64 nx] 29 (0, 0))) (hO : wr.heap[q]? = some o) (hr : RdI w (some ⟨b, off, none⟩) J) (hk : k < J.length) (hb : Below wr.heap.size wr W) (hB : Below w.heap.size w W) (hx : x = iAt J k) :
    W.cell? ⟨w.heap.size, 0, none⟩ = some (.slice (some ⟨b, off, none⟩) n cap) ∧ W.cell? ⟨b, off + k * 3, none⟩ = some (.int .i64 x.id) ∧ W.cell? ⟨b, off + k * 3 + 1, none⟩ = some (.string x.kd) ∧ W.cell? ⟨b, off + k * 3 + 2, none⟩ = some (.slice x.a x.L.length x.cap) :=
  sI5 (box_step hA hb) hr hB hk hx

set_option maxRecDepth 100000 in
set_option maxHeartbeats 12800000 in
theorem l4Copy_any (a : Option Addr) (n cap : Nat) (nx : Int) (J : List It) (w : World) (hr : RdI w a J) (hJ : J.length = n) (hn : n ≤ 1048576) (hl : ∀ i, i < J.length → (iAt J i).L.length ≤ 1048580) :
    Calls Tryd.prog 37 #[.agg #[.slice a n cap, .int .i64 nx]] w fun e w' =>
      ∃ K v, e = .returned (.agg #[v, .int .i64 nx]) ∧ GivesS w' w.heap.size v n K ∧ K.map It.pl = J.map It.pl ∧ Below w.heap.size w w' := by
  obtain ⟨i0, hi, hz0, hz1, hz2⟩ := info_parts Tryd.info54
  have HJ := hide hJ
  have HL := hide hl
  clear hJ hl
  have b0 := below_al w (.cells #[.slice a n cap, .int .i64 nx] 29)
  have b1 := b0.alloc b0.size (.cells #[.slice none 0 0, .int .i64 0] 29)
  have b2 := b1.alloc b1.size (.cells #[.slice none 0 0, .int .i64 nx] 29)
  have hA := box_old (box_old (box2_new w (.slice a n cap) (.int .i64 nx) 29) (by simp) (.cells #[.slice none 0 0, .int .i64 0] 29)) (by simp; omega) (.cells #[.slice none 0 0, .int .i64 nx] 29)
  have hR := box_old (box2_new (w.alloc (.cells #[.slice a n cap, .int .i64 nx] 29)) (.slice none 0 0) (.int .i64 0) 29) (by simp) (.cells #[.slice none 0 0, .int .i64 nx] 29)
  have hO := box2_new ((w.alloc (.cells #[.slice a n cap, .int .i64 nx] 29)).alloc (.cells #[.slice none 0 0, .int .i64 0] 29)) (.slice none 0 0) (.int .i64 nx) 29
  simp only [World.size_alloc] at hA hR hO
  go_enter Tryd.func37, Tryd.ntmps37
  go_wp2
  generalize ((w.alloc (.cells #[.slice a n cap, .int .i64 nx] 29)).alloc (.cells #[.slice none 0 0, .int .i64 0] 29)).alloc (.cells #[.slice none 0 0, .int .i64 nx] 29) = w0 at b2 hA hR hO ⊢
  clear b0 b1
  go_loopw [4] (fun i wr => ∃ (k g : Nat) (v : Value) (K : List It), k ≤ n ∧ i = .int .i64 k ∧ K.length = k ∧ wr.heap[w.heap.size + 1 + 1]? = some (.cells #[v, .int .i64 nx] 29 (0, 0)) ∧ wr.heap[w.heap.size]? = some (.cells #[.slice a n cap, .int .i64 nx] 29 (0, 0)) ∧ wr.heap[w.heap.size + 1]? = some (.cells #[.slice none 0 0, .int .i64 0] 29 (0, 0)) ∧ ((k = 0 ∧ v = .slice none 0 0) ∨ ∃ cp, v = .slice (some ⟨g, 0, none⟩) k cp ∧ w.heap.size + 1 + 1 + 1 ≤ g) ∧ g < wr.heap.size ∧ wr.ownsRow (w.heap.size + 1 + 1 + 1) 54 3 v k (rowOf It.cells K) ∧ Copied wr (w.heap.size + 1 + 1 + 1) g J K k ∧ Below w.heap.size w wr)
    (fun i _ => n - (intOf i).toNat)
  case atStart => exact ⟨0, w.heap.size, .slice none 0 0, [], Nat.zero_le _, rfl, rfl, hO, hA, hR, Or.inl ⟨rfl, rfl⟩, (Array.getElem?_eq_some_iff.1 hA).1, World.ownsRow_nil _ _ _ _, Copied.zero _ _ _ _ _, b2⟩
  case round =>
    clear hO hA hR b2
    obtain ⟨k, g, v, K, hk, rfl, hKk, hO, hA, hR, hvg, hgs, hown, hcop, hbel⟩ := hrel
    have HKk := hide hKk
    have HCop := hide hcop
    have HOwn := hide hown
    have hlo : w.heap.size + 1 + 1 + 1 ≤ wr.heap.size := (Array.getElem?_eq_some_iff.1 hO).1
    have HOb : Hid (∀ q, v.ownBlock = some q → q = g ∧ w.heap.size + 1 + 1 + 1 ≤ q) := by
      intro q e
      rcases hvg with ⟨_, rfl⟩ | ⟨cp, rfl, hl⟩
      · cases e
      · cases e; exact ⟨rfl, hl⟩
    clear hKk hcop hown
    by_cases hlt : k < n
    · have HKn : Hid (k < J.length) := by unfold Hid; rw [HJ.out]; exact hlt
      obtain ⟨b, off, hab, hbw, -⟩ := hr.open (by rw [HJ.out]; omega)
      subst hab
      obtain ⟨b', off', e', c0, c1, c2, hv⟩ := hr.below hbel k HKn.out
      have HLk := hide (HL.out k HKn.out)
      clear b' off' e' c0 c1 c2 hvg
      obtain ⟨x, hx⟩ : ∃ x, x = iAt J k := ⟨_, rfl⟩
      have S0 := sI5 hA hr hbel HKn.out hx
      rw [← hx] at hv HLk
      have HX := hide hx
      clear hx
      obtain ⟨id, kd, va, vc, L⟩ := x
      simp only at S0 hv HLk
      obtain ⟨o0, -, -, -⟩ := box2_cell hO
      have hvd : RdV wr.drew va L := hv.heap rfl
      obtain ⟨s0, s1, s2, s3⟩ := S0
      go_wp2_with fail
      have S0 := And.intro s0 (And.intro s1 (And.intro s2 s3))
      clear s0 s1 s2 s3
      refine wp_region_held_drew (S := fun W => W.cell? ⟨w.heap.size, 0, none⟩ = some (.slice (some ⟨b, off, none⟩) n cap) ∧ W.cell? ⟨b, off + k * 3, none⟩ = some (.int .i64 id) ∧ W.cell? ⟨b, off + k * 3 + 1, none⟩ = some (.string kd) ∧ W.cell? ⟨b, off + k * 3 + 2, none⟩ = some (.slice va L.length vc)) (by kernel_rfl) S0 (fun hHeld => ?_)
      refine wpAnyH_take (i := 0) (oi := Oper.mk (some 15) _ _ _ _ _) (v := ?v1) rfl (by kernel_rfl) (by kernel_rfl) (by kernel_rfl) (fun _ _ _ h => h) (Or.inl ⟨by rfl, ?y1⟩) hHeld ?r1
      case y1 => (intro W hSW; obtain ⟨q0, q1, q2, q3⟩ := hSW; go_simp; try with_reducible rfl)
      simp only [Act.put, List.setIfInBounds_toArray, List.set_cons_zero, List.set_cons_succ]
      refine wpAnyH_take (i := 2) (oi := Oper.mk (some 17) _ _ _ _ _) (v := ?v2) rfl (by kernel_rfl) (by kernel_rfl) (by kernel_rfl) (fun _ _ _ h => h) (Or.inl ⟨by rfl, ?y2⟩) hHeld ?r2
      case y2 => (intro W hSW; obtain ⟨q0, q1, q2, q3⟩ := hSW; go_simp; try with_reducible rfl)
      simp only [Act.put, List.setIfInBounds_toArray, List.set_cons_zero, List.set_cons_succ]
      refine wpAnyH_take (i := 3) (oi := Oper.mk (some 18) _ _ _ _ _) (v := ?v3) rfl (by kernel_rfl) (by kernel_rfl) (by kernel_rfl) (fun _ _ _ h => h) (Or.inl ⟨by rfl, ?y3⟩) hHeld ?r3
      case y3 => (intro W hSW; obtain ⟨q0, q1, q2, q3⟩ := hSW; go_simp; try with_reducible rfl)
      simp only [Act.put, List.setIfInBounds_toArray, List.set_cons_zero, List.set_cons_succ]
      refine wpAnyH_take (i := 4) (oi := Oper.mk (some 19) _ _ _ _ _) (v := ?v4) rfl (by kernel_rfl) (by kernel_rfl) (by kernel_rfl) (fun _ _ _ h => h) (Or.inl ⟨by rfl, ?y4⟩) hHeld ?r4
      case y4 => (intro W hSW; obtain ⟨q0, q1, q2, q3⟩ := hSW; go_simp; try with_reducible rfl)
      simp only [Act.put, List.setIfInBounds_toArray, List.set_cons_zero, List.set_cons_succ]
      refine wpAnyH_take (i := 5) (oi := Oper.mk (some 20) _ _ _ _ _) (v := ?v5) rfl (by kernel_rfl) (by kernel_rfl) (by kernel_rfl) (fun _ _ _ h => h) (Or.inl ⟨by rfl, ?y5⟩) hHeld ?r5
      case y5 => (intro W hSW; obtain ⟨q0, q1, q2, q3⟩ := hSW; go_simp; try with_reducible rfl)
      simp only [Act.put, List.setIfInBounds_toArray, List.set_cons_zero, List.set_cons_succ]
      refine wpAnyH_take (i := 6) (oi := Oper.mk (some 21) _ _ _ _ _) (v := ?v6) rfl (by kernel_rfl) (by kernel_rfl) (by kernel_rfl) (fun _ _ _ h => h) (Or.inl ⟨by rfl, ?y6⟩) hHeld ?r6
      case y6 => (intro W hSW; obtain ⟨q0, q1, q2, q3⟩ := hSW; go_simp; try with_reducible rfl)
      simp only [Act.put, List.setIfInBounds_toArray, List.set_cons_zero, List.set_cons_succ]
      refine wpAnyH_take (i := 7) (oi := Oper.mk (some 22) _ _ _ _ _) (v := ?v7) rfl (by kernel_rfl) (by kernel_rfl) (by kernel_rfl) (fun _ _ _ h => h) (Or.inl ⟨by rfl, ?y7⟩) hHeld ?r7
      case y7 => (intro W hSW; obtain ⟨q0, q1, q2, q3⟩ := hSW; go_simp; try with_reducible rfl)
      simp only [Act.put, List.setIfInBounds_toArray, List.set_cons_zero, List.set_cons_succ]
      refine wpAnyH_take (i := 8) (oi := Oper.mk (some 23) _ _ _ _ _) (v := ?v8) rfl (by kernel_rfl) (by kernel_rfl) (by kernel_rfl) (fun _ _ _ h => h) (Or.inl ⟨by rfl, ?y8⟩) hHeld ?r8
      case y8 => (intro W hSW; obtain ⟨q0, q1, q2, q3⟩ := hSW; go_simp; try with_reducible rfl)
      simp only [Act.put, List.setIfInBounds_toArray, List.set_cons_zero, List.set_cons_succ]
      refine wpAnyH_take (i := 9) (oi := Oper.mk (some 24) _ _ _ _ _) (v := ?v9) rfl (by kernel_rfl) (by kernel_rfl) (by kernel_rfl) (fun _ _ _ h => h) (Or.inl ⟨by rfl, ?y9⟩) hHeld ?r9
      case y9 => (intro W hSW; obtain ⟨q0, q1, q2, q3⟩ := hSW; go_simp; try with_reducible rfl)
      simp only [Act.put, List.setIfInBounds_toArray, List.set_cons_zero, List.set_cons_succ]
      refine wpAnyH_take (i := 10) (oi := Oper.mk (some 25) _ _ _ _ _) (v := ?v10) rfl (by kernel_rfl) (by kernel_rfl) (by kernel_rfl) (fun _ _ _ h => h) (Or.inl ⟨by rfl, ?y10⟩) hHeld ?r10
      case y10 => (intro W hSW; obtain ⟨q0, q1, q2, q3⟩ := hSW; go_simp; try with_reducible rfl)
      simp only [Act.put, List.setIfInBounds_toArray, List.set_cons_zero, List.set_cons_succ]
      refine wpAnyH_take (i := 11) (oi := Oper.mk (some 26) _ _ _ _ _) (v := ?v11) rfl (by kernel_rfl) (by kernel_rfl) (by kernel_rfl) (fun _ _ _ h => h) (Or.inl ⟨by rfl, ?y11⟩) hHeld ?r11
      case y11 => (intro W hSW; obtain ⟨q0, q1, q2, q3⟩ := hSW; go_simp; try with_reducible rfl)
      simp only [Act.put, List.setIfInBounds_toArray, List.set_cons_zero, List.set_cons_succ]
      refine wpAnyH_take (i := 12) (oi := Oper.mk (some 27) _ _ _ _ _) (v := ?v12) rfl (by kernel_rfl) (by kernel_rfl) (by kernel_rfl) (fun _ _ _ h => h) (Or.inl ⟨by rfl, ?y12⟩) hHeld ?r12
      case y12 => (intro W hSW; obtain ⟨q0, q1, q2, q3⟩ := hSW; go_simp; try with_reducible rfl)
      simp only [Act.put, List.setIfInBounds_toArray, List.set_cons_zero, List.set_cons_succ]
      refine wpAnyH_take (i := 13) (oi := Oper.mk (some 28) _ _ _ _ _) (v := ?v13) rfl (by kernel_rfl) (by kernel_rfl) (by kernel_rfl) (fun _ _ _ h => h) (Or.inl ⟨by rfl, ?y13⟩) hHeld ?r13
      case y13 => (intro W hSW; obtain ⟨q0, q1, q2, q3⟩ := hSW; go_simp; try with_reducible rfl)
      simp only [Act.put, List.setIfInBounds_toArray, List.set_cons_zero, List.set_cons_succ]
      refine wpAnyH_ready (rs := [1, 14]) (by kernel_rfl) (by simp) (AllReadyH.cons (o := Oper.mk (some 16) _ _ _ _ _) rfl (fun Kk hK => ?_) (AllReadyH.cons (o := Oper.mk (some 29) _ _ _ _ _) rfl (fun Kk hK => ?_) AllReadyH.nil))
      · go_simp
        refine hK.out _ _ S0 (fun hHeld => ?_)
        clear hK Kk
        refine wpAnyH_ready (rs := [14]) (by kernel_rfl) (by simp) (AllReadyH.cons (o := Oper.mk (some 29) _ _ _ _ _) rfl (fun Kk hK => ?_) AllReadyH.nil)
        go_simp
        refine (l3Copy_any kd va vc L _ hvd HLk.out).mono ?_
        rintro e w2 ⟨a', c', rfl, hnew, b2⟩
        have hbr2 : Below wr.heap.size wr w2 := below_dr b2
        have hB2 := hbel.trans (hbr2.mono hbel.size)
        have hO2 := box_step hO hbr2
        have S2 := sI hA hO hr HKn.out hbr2 hB2 HX.out
        obtain ⟨o2, -, -, -⟩ := box2_cell hO2
        refine hK.out _ _ S2 (fun hHeld => ?_)
        clear hK Kk
        refine wpAnyH_take (i := 15) (oi := Oper.mk (some 30) _ _ _ _ _) (v := ?v14) rfl (by kernel_rfl) (by kernel_rfl) (by kernel_rfl) (fun _ _ _ h => h) (Or.inl ⟨by rfl, ?y14⟩) hHeld ?r14
        case y14 => (intro W hSW; obtain ⟨q0, q1, q2, q3⟩ := hSW; go_simp; try with_reducible rfl)
        simp only [Act.put, List.setIfInBounds_toArray, List.set_cons_zero, List.set_cons_succ]
        refine wpAnyH_ready (rs := [16]) (by kernel_rfl) (by simp) (AllReadyH.cons (o := Oper.mk (some 31) _ _ _ _ _) rfl (fun Kk hK => ?_) AllReadyH.nil)
        go_simp
        have ba3 := below_al w2 (.cells #[.int .i64 id, .string kd, .slice a' L.length c'] 54)
        have hbr3 := hbr2.trans (ba3.mono hbr2.size)
        have hB3 := hbel.trans (hbr3.mono hbel.size)
        have hnew3 : NewV _ wr.heap.size a' c' L := hnew.later ba3
        have HSrc := hide (srcI w2 ⟨id, kd, a', c', L⟩)
        have HO3 := hide (ownsRow_below HOwn.out hbr3)
        have hO3 := box_step hO hbr3
        have hA3 := box_step hA hbr3
        have hR3 := box_step hR hbr3
        have S3 := sI hA hO hr HKn.out hbr3 hB3 HX.out
        obtain ⟨o3, -, -, -⟩ := box2_cell hO3
        refine hK.out _ _ S3 (fun hHeld => ?_)
        clear hK Kk
        refine wpAnyH_ready (rs := [17]) (by kernel_rfl) (by simp) (AllReadyH.cons (o := Oper.mk (some 32) _ _ _ _ _) rfl (fun Kk hK => ?_) AllReadyH.nil)
        refine step_append_lies _ rfl (.tmp 16) (.tmp 31) 27 rfl (w.heap.size + 1 + 1 + 1) 54 i0 (.agg #[.int .i64 0, .string ⟨#[]⟩, .slice none 0 0]) 3 48 Tryd.underlying27 hi hz0 hz1 hz2 rfl (by omega) v k (rowOf It.cells K) rfl HO3.out ⟨w2.heap.size, 0, none⟩ 1 1 (It.cells ⟨id, kd, a', c', L⟩) ?hx rfl HSrc.out (oneI _) (by omega) (by unfold maxLen; omega) (by omega) (Nat.le_trans hlo hbr3.size) _ rfl ?_
        case hx => simp [Act.eval]
        intro g5 c5 w5 ho5 hg5 hat5 hlt5
        rw [rowI_app] at ho5
        have hB5 := hB3.grown hg5 hB3.size (fun q e => by have := HOb.out q e; omega)
        have far : ∀ q, q < w.heap.size + 1 + 1 + 1 → w5.heap[q]? = (w2.alloc (.cells #[.int .i64 id, .string kd, .slice a' L.length c'] 54)).heap[q]? := fun q hq => hg5.block q (Nat.lt_of_lt_of_le hq (Nat.le_trans hlo hbr3.size)) (fun e => by have := HOb.out q e.symm; omega)
        have hO5 := (far _ (by omega)).trans hO3
        have hA5 := (far _ (by omega)).trans hA3
        have hR5 := (far _ (by omega)).trans hR3
        have S5 := sI5 hA5 hr hB5 HKn.out HX.out
        obtain ⟨o5, o51, of0, of1⟩ := box2_cell hO5
        have hg5l : w.heap.size + 1 + 1 + 1 ≤ g5 := by
          rcases hat5 with e | e
          · exact (HOb.out g5 e).2
          · rw [e]; exact Nat.le_trans hlo hbr3.size
        have HC3 := hide (HCop.out.more (K' := K ++ [⟨id, kd, a', c', L⟩]) (x := ⟨id, kd, a', c', L⟩) hbr3 (World.grownBy.refl _ _) (fun i hi => iAt_app_lt (by rw [HKk.out]; exact hi)) (by have e := iAt_app_eq K ⟨id, kd, a', c', L⟩; rw [HKk.out] at e; exact e) (by rw [← HX.out]; rfl) (fun hne => by obtain ⟨q, e, h1, o⟩ := hnew3.own hne; exact ⟨q, e, h1, o⟩) hnew3.2 hlo hgs)
        have st := box2_set0 hO5 (.slice (some ⟨g5, 0, none⟩) (k + 1) c5)
        have HC6 := hide (HC3.out.rebase2 (w' := w5.setCell ⟨w.heap.size + 1 + 1, 0, none⟩ (.slice (some ⟨g5, 0, none⟩) (k + 1) c5)) (g' := g5) (fun q hq1 hq hne => (st.2.block q (Nat.lt_of_lt_of_le hq hg5.size) (fun e => by have e2 : q = w.heap.size + 1 + 1 := Option.some.inj e; omega)).trans (hg5.block q hq (fun e => hne (HOb.out q e.symm).1))) (by rcases hat5 with e | e; exact .inl (HOb.out g5 e).1; exact .inr (Nat.le_of_eq e.symm)))
        have HO6 := hide (ownsRow_sameB (w' := w5.setCell ⟨w.heap.size + 1 + 1, 0, none⟩ (.slice (some ⟨g5, 0, none⟩) (k + 1) c5)) ho5 (fun q e => by have e1 : g5 = q := Option.some.inj e; subst e1; exact st.2.block g5 hlt5 (fun e => by have e2 : g5 = w.heap.size + 1 + 1 := Option.some.inj e; omega)))
        have hB6 := below_set hB5 st.2 (by omega)
        have hA6 := box_gr hA5 st.2 (by omega)
        have hR6 := box_gr hR5 st.2 (by omega)
        have hO6 := st.1
        have S6 := sI5 hA6 hr hB6 HKn.out HX.out
        have hlt6 := Nat.lt_of_lt_of_le hlt5 st.2.size
        have HLen : Hid ((K ++ [(⟨id, kd, a', c', L⟩ : It)]).length = k + 1) := by unfold Hid; rw [List.length_append, HKk.out]; rfl
        refine hK.out _ _ S5 (fun hHeld => ?_)
        clear hK Kk
        refine wpAnyH_take (i := 18) (oi := Oper.mk (some 33) _ _ _ _ _) (v := ?v15) rfl (by kernel_rfl) (by kernel_rfl) (by kernel_rfl) (fun _ _ _ h => h) (Or.inl ⟨by rfl, ?y15⟩) hHeld ?r15
        case y15 => (intro W hSW; obtain ⟨q0, q1, q2, q3⟩ := hSW; go_simp; try with_reducible rfl)
        simp only [Act.put, List.setIfInBounds_toArray, List.set_cons_zero, List.set_cons_succ]
        refine wpAnyH_ready (rs := [19]) (by kernel_rfl) (by simp) (AllReadyH.cons (o := Oper.mk none _ _ _ _ _) rfl (fun Kk hK => ?_) AllReadyH.nil)
        go_simp
        refine hK.out _ _ S6 (fun hHeld => ?_)
        clear hK Kk
        refine wpAnyH_done (by kernel_rfl) ?_ _
        have HB6 := hide hB6
        have HA6 := hide hA6
        have HR6 := hide hR6
        have HP6 := hide hO6
        clear S2 S3 S5 S6 st hO6 hA6 hR6 hB6 o5 o51 of0 of1 hO5 hA5 hR5 far hB5 hHeld o3 hO3 hA3 hR3 ho5 hg5 HO3 HSrc hnew3 hB3 hbr3 ba3 o2 hO2 hB2 hbr2 hnew b2 HC3 HCop HOwn hO hA hR S0 o0 
        go_wp2
        go_roundw
        case rel => exact ⟨k + 1, g5, _, _, by omega, by go_num, HLen.out, HP6.out, HA6.out, HR6.out, Or.inr ⟨c5, rfl, hg5l⟩, hlt6, HO6.out, HC6.out, HB6.out⟩
        case measure => simp [intOf]; omega
      · go_simp
        refine (l3Copy_any kd va vc L _ hvd HLk.out).mono ?_
        rintro e w2 ⟨a', c', rfl, hnew, b2⟩
        have hbr2 : Below wr.heap.size wr w2 := below_dr b2
        have hB2 := hbel.trans (hbr2.mono hbel.size)
        have hO2 := box_step hO hbr2
        have S2 := sI hA hO hr HKn.out hbr2 hB2 HX.out
        obtain ⟨o2, -, -, -⟩ := box2_cell hO2
        refine hK.out _ _ S2 (fun hHeld => ?_)
        clear hK Kk
        refine wpAnyH_take (i := 15) (oi := Oper.mk (some 30) _ _ _ _ _) (v := ?v16) rfl (by kernel_rfl) (by kernel_rfl) (by kernel_rfl) (fun _ _ _ h => h) (Or.inl ⟨by rfl, ?y16⟩) hHeld ?r16
        case y16 => (intro W hSW; obtain ⟨q0, q1, q2, q3⟩ := hSW; go_simp; try with_reducible rfl)
        simp only [Act.put, List.setIfInBounds_toArray, List.set_cons_zero, List.set_cons_succ]
        refine wpAnyH_ready (rs := [1, 16]) (by kernel_rfl) (by simp) (AllReadyH.cons (o := Oper.mk (some 16) _ _ _ _ _) rfl (fun Kk hK => ?_) (AllReadyH.cons (o := Oper.mk (some 31) _ _ _ _ _) rfl (fun Kk hK => ?_) AllReadyH.nil))
        · go_simp
          refine hK.out _ _ S2 (fun hHeld => ?_)
          clear hK Kk
          refine wpAnyH_ready (rs := [16]) (by kernel_rfl) (by simp) (AllReadyH.cons (o := Oper.mk (some 31) _ _ _ _ _) rfl (fun Kk hK => ?_) AllReadyH.nil)
          go_simp
          have ba3 := below_al w2 (.cells #[.int .i64 id, .string kd, .slice a' L.length c'] 54)
          have hbr3 := hbr2.trans (ba3.mono hbr2.size)
          have hB3 := hbel.trans (hbr3.mono hbel.size)
          have hnew3 : NewV _ wr.heap.size a' c' L := hnew.later ba3
          have HSrc := hide (srcI w2 ⟨id, kd, a', c', L⟩)
          have HO3 := hide (ownsRow_below HOwn.out hbr3)
          have hO3 := box_step hO hbr3
          have hA3 := box_step hA hbr3
          have hR3 := box_step hR hbr3
          have S3 := sI hA hO hr HKn.out hbr3 hB3 HX.out
          obtain ⟨o3, -, -, -⟩ := box2_cell hO3
          refine hK.out _ _ S3 (fun hHeld => ?_)
          clear hK Kk
          refine wpAnyH_ready (rs := [17]) (by kernel_rfl) (by simp) (AllReadyH.cons (o := Oper.mk (some 32) _ _ _ _ _) rfl (fun Kk hK => ?_) AllReadyH.nil)
          refine step_append_lies _ rfl (.tmp 16) (.tmp 31) 27 rfl (w.heap.size + 1 + 1 + 1) 54 i0 (.agg #[.int .i64 0, .string ⟨#[]⟩, .slice none 0 0]) 3 48 Tryd.underlying27 hi hz0 hz1 hz2 rfl (by omega) v k (rowOf It.cells K) rfl HO3.out ⟨w2.heap.size, 0, none⟩ 1 1 (It.cells ⟨id, kd, a', c', L⟩) ?hx rfl HSrc.out (oneI _) (by omega) (by unfold maxLen; omega) (by omega) (Nat.le_trans hlo hbr3.size) _ rfl ?_
          case hx => simp [Act.eval]
          intro g5 c5 w5 ho5 hg5 hat5 hlt5
          rw [rowI_app] at ho5
          have hB5 := hB3.grown hg5 hB3.size (fun q e => by have := HOb.out q e; omega)
          have far : ∀ q, q < w.heap.size + 1 + 1 + 1 → w5.heap[q]? = (w2.alloc (.cells #[.int .i64 id, .string kd, .slice a' L.length c'] 54)).heap[q]? := fun q hq => hg5.block q (Nat.lt_of_lt_of_le hq (Nat.le_trans hlo hbr3.size)) (fun e => by have := HOb.out q e.symm; omega)
          have hO5 := (far _ (by omega)).trans hO3
          have hA5 := (far _ (by omega)).trans hA3
          have hR5 := (far _ (by omega)).trans hR3
          have S5 := sI5 hA5 hr hB5 HKn.out HX.out
          obtain ⟨o5, o51, of0, of1⟩ := box2_cell hO5
          have hg5l : w.heap.size + 1 + 1 + 1 ≤ g5 := by
            rcases hat5 with e | e
            · exact (HOb.out g5 e).2
            · rw [e]; exact Nat.le_trans hlo hbr3.size
          have HC3 := hide (HCop.out.more (K' := K ++ [⟨id, kd, a', c', L⟩]) (x := ⟨id, kd, a', c', L⟩) hbr3 (World.grownBy.refl _ _) (fun i hi => iAt_app_lt (by rw [HKk.out]; exact hi)) (by have e := iAt_app_eq K ⟨id, kd, a', c', L⟩; rw [HKk.out] at e; exact e) (by rw [← HX.out]; rfl) (fun hne => by obtain ⟨q, e, h1, o⟩ := hnew3.own hne; exact ⟨q, e, h1, o⟩) hnew3.2 hlo hgs)
          have st := box2_set0 hO5 (.slice (some ⟨g5, 0, none⟩) (k + 1) c5)
          have HC6 := hide (HC3.out.rebase2 (w' := w5.setCell ⟨w.heap.size + 1 + 1, 0, none⟩ (.slice (some ⟨g5, 0, none⟩) (k + 1) c5)) (g' := g5) (fun q hq1 hq hne => (st.2.block q (Nat.lt_of_lt_of_le hq hg5.size) (fun e => by have e2 : q = w.heap.size + 1 + 1 := Option.some.inj e; omega)).trans (hg5.block q hq (fun e => hne (HOb.out q e.symm).1))) (by rcases hat5 with e | e; exact .inl (HOb.out g5 e).1; exact .inr (Nat.le_of_eq e.symm)))
          have HO6 := hide (ownsRow_sameB (w' := w5.setCell ⟨w.heap.size + 1 + 1, 0, none⟩ (.slice (some ⟨g5, 0, none⟩) (k + 1) c5)) ho5 (fun q e => by have e1 : g5 = q := Option.some.inj e; subst e1; exact st.2.block g5 hlt5 (fun e => by have e2 : g5 = w.heap.size + 1 + 1 := Option.some.inj e; omega)))
          have hB6 := below_set hB5 st.2 (by omega)
          have hA6 := box_gr hA5 st.2 (by omega)
          have hR6 := box_gr hR5 st.2 (by omega)
          have hO6 := st.1
          have S6 := sI5 hA6 hr hB6 HKn.out HX.out
          have hlt6 := Nat.lt_of_lt_of_le hlt5 st.2.size
          have HLen : Hid ((K ++ [(⟨id, kd, a', c', L⟩ : It)]).length = k + 1) := by unfold Hid; rw [List.length_append, HKk.out]; rfl
          refine hK.out _ _ S5 (fun hHeld => ?_)
          clear hK Kk
          refine wpAnyH_take (i := 18) (oi := Oper.mk (some 33) _ _ _ _ _) (v := ?v17) rfl (by kernel_rfl) (by kernel_rfl) (by kernel_rfl) (fun _ _ _ h => h) (Or.inl ⟨by rfl, ?y17⟩) hHeld ?r17
          case y17 => (intro W hSW; obtain ⟨q0, q1, q2, q3⟩ := hSW; go_simp; try with_reducible rfl)
          simp only [Act.put, List.setIfInBounds_toArray, List.set_cons_zero, List.set_cons_succ]
          refine wpAnyH_ready (rs := [19]) (by kernel_rfl) (by simp) (AllReadyH.cons (o := Oper.mk none _ _ _ _ _) rfl (fun Kk hK => ?_) AllReadyH.nil)
          go_simp
          refine hK.out _ _ S6 (fun hHeld => ?_)
          clear hK Kk
          refine wpAnyH_done (by kernel_rfl) ?_ _
          have HB6 := hide hB6
          have HA6 := hide hA6
          have HR6 := hide hR6
          have HP6 := hide hO6
          clear S2 S3 S5 S6 st hO6 hA6 hR6 hB6 o5 o51 of0 of1 hO5 hA5 hR5 far hB5 hHeld o3 hO3 hA3 hR3 ho5 hg5 HO3 HSrc hnew3 hB3 hbr3 ba3 o2 hO2 hB2 hbr2 hnew b2 HC3 HCop HOwn hO hA hR S0 o0 
          go_wp2
          go_roundw
          case rel => exact ⟨k + 1, g5, _, _, by omega, by go_num, HLen.out, HP6.out, HA6.out, HR6.out, Or.inr ⟨c5, rfl, hg5l⟩, hlt6, HO6.out, HC6.out, HB6.out⟩
          case measure => simp [intOf]; omega
        · go_simp
          have ba3 := below_al w2 (.cells #[.int .i64 id, .string kd, .slice a' L.length c'] 54)
          have hbr3 := hbr2.trans (ba3.mono hbr2.size)
          have hB3 := hbel.trans (hbr3.mono hbel.size)
          have hnew3 : NewV _ wr.heap.size a' c' L := hnew.later ba3
          have HSrc := hide (srcI w2 ⟨id, kd, a', c', L⟩)
          have HO3 := hide (ownsRow_below HOwn.out hbr3)
          have hO3 := box_step hO hbr3
          have hA3 := box_step hA hbr3
          have hR3 := box_step hR hbr3
          have S3 := sI hA hO hr HKn.out hbr3 hB3 HX.out
          obtain ⟨o3, -, -, -⟩ := box2_cell hO3
          refine hK.out _ _ S3 (fun hHeld => ?_)
          clear hK Kk
          refine wpAnyH_ready (rs := [1]) (by kernel_rfl) (by simp) (AllReadyH.cons (o := Oper.mk (some 16) _ _ _ _ _) rfl (fun Kk hK => ?_) AllReadyH.nil)
          go_simp
          refine hK.out _ _ S3 (fun hHeld => ?_)
          clear hK Kk
          refine wpAnyH_ready (rs := [17]) (by kernel_rfl) (by simp) (AllReadyH.cons (o := Oper.mk (some 32) _ _ _ _ _) rfl (fun Kk hK => ?_) AllReadyH.nil)
          refine step_append_lies _ rfl (.tmp 16) (.tmp 31) 27 rfl (w.heap.size + 1 + 1 + 1) 54 i0 (.agg #[.int .i64 0, .string ⟨#[]⟩, .slice none 0 0]) 3 48 Tryd.underlying27 hi hz0 hz1 hz2 rfl (by omega) v k (rowOf It.cells K) rfl HO3.out ⟨w2.heap.size, 0, none⟩ 1 1 (It.cells ⟨id, kd, a', c', L⟩) ?hx rfl HSrc.out (oneI _) (by omega) (by unfold maxLen; omega) (by omega) (Nat.le_trans hlo hbr3.size) _ rfl ?_
          case hx => simp [Act.eval]
          intro g5 c5 w5 ho5 hg5 hat5 hlt5
          rw [rowI_app] at ho5
          have hB5 := hB3.grown hg5 hB3.size (fun q e => by have := HOb.out q e; omega)
          have far : ∀ q, q < w.heap.size + 1 + 1 + 1 → w5.heap[q]? = (w2.alloc (.cells #[.int .i64 id, .string kd, .slice a' L.length c'] 54)).heap[q]? := fun q hq => hg5.block q (Nat.lt_of_lt_of_le hq (Nat.le_trans hlo hbr3.size)) (fun e => by have := HOb.out q e.symm; omega)
          have hO5 := (far _ (by omega)).trans hO3
          have hA5 := (far _ (by omega)).trans hA3
          have hR5 := (far _ (by omega)).trans hR3
          have S5 := sI5 hA5 hr hB5 HKn.out HX.out
          obtain ⟨o5, o51, of0, of1⟩ := box2_cell hO5
          have hg5l : w.heap.size + 1 + 1 + 1 ≤ g5 := by
            rcases hat5 with e | e
            · exact (HOb.out g5 e).2
            · rw [e]; exact Nat.le_trans hlo hbr3.size
          have HC3 := hide (HCop.out.more (K' := K ++ [⟨id, kd, a', c', L⟩]) (x := ⟨id, kd, a', c', L⟩) hbr3 (World.grownBy.refl _ _) (fun i hi => iAt_app_lt (by rw [HKk.out]; exact hi)) (by have e := iAt_app_eq K ⟨id, kd, a', c', L⟩; rw [HKk.out] at e; exact e) (by rw [← HX.out]; rfl) (fun hne => by obtain ⟨q, e, h1, o⟩ := hnew3.own hne; exact ⟨q, e, h1, o⟩) hnew3.2 hlo hgs)
          have st := box2_set0 hO5 (.slice (some ⟨g5, 0, none⟩) (k + 1) c5)
          have HC6 := hide (HC3.out.rebase2 (w' := w5.setCell ⟨w.heap.size + 1 + 1, 0, none⟩ (.slice (some ⟨g5, 0, none⟩) (k + 1) c5)) (g' := g5) (fun q hq1 hq hne => (st.2.block q (Nat.lt_of_lt_of_le hq hg5.size) (fun e => by have e2 : q = w.heap.size + 1 + 1 := Option.some.inj e; omega)).trans (hg5.block q hq (fun e => hne (HOb.out q e.symm).1))) (by rcases hat5 with e | e; exact .inl (HOb.out g5 e).1; exact .inr (Nat.le_of_eq e.symm)))
          have HO6 := hide (ownsRow_sameB (w' := w5.setCell ⟨w.heap.size + 1 + 1, 0, none⟩ (.slice (some ⟨g5, 0, none⟩) (k + 1) c5)) ho5 (fun q e => by have e1 : g5 = q := Option.some.inj e; subst e1; exact st.2.block g5 hlt5 (fun e => by have e2 : g5 = w.heap.size + 1 + 1 := Option.some.inj e; omega)))
          have hB6 := below_set hB5 st.2 (by omega)
          have hA6 := box_gr hA5 st.2 (by omega)
          have hR6 := box_gr hR5 st.2 (by omega)
          have hO6 := st.1
          have S6 := sI5 hA6 hr hB6 HKn.out HX.out
          have hlt6 := Nat.lt_of_lt_of_le hlt5 st.2.size
          have HLen : Hid ((K ++ [(⟨id, kd, a', c', L⟩ : It)]).length = k + 1) := by unfold Hid; rw [List.length_append, HKk.out]; rfl
          refine hK.out _ _ S5 (fun hHeld => ?_)
          clear hK Kk
          refine wpAnyH_take (i := 18) (oi := Oper.mk (some 33) _ _ _ _ _) (v := ?v18) rfl (by kernel_rfl) (by kernel_rfl) (by kernel_rfl) (fun _ _ _ h => h) (Or.inl ⟨by rfl, ?y18⟩) hHeld ?r18
          case y18 => (intro W hSW; obtain ⟨q0, q1, q2, q3⟩ := hSW; go_simp; try with_reducible rfl)
          simp only [Act.put, List.setIfInBounds_toArray, List.set_cons_zero, List.set_cons_succ]
          refine wpAnyH_ready (rs := [19]) (by kernel_rfl) (by simp) (AllReadyH.cons (o := Oper.mk none _ _ _ _ _) rfl (fun Kk hK => ?_) AllReadyH.nil)
          go_simp
          refine hK.out _ _ S6 (fun hHeld => ?_)
          clear hK Kk
          refine wpAnyH_done (by kernel_rfl) ?_ _
          have HB6 := hide hB6
          have HA6 := hide hA6
          have HR6 := hide hR6
          have HP6 := hide hO6
          clear S2 S3 S5 S6 st hO6 hA6 hR6 hB6 o5 o51 of0 of1 hO5 hA5 hR5 far hB5 hHeld o3 hO3 hA3 hR3 ho5 hg5 HO3 HSrc hnew3 hB3 hbr3 ba3 o2 hO2 hB2 hbr2 hnew b2 HC3 HCop HOwn hO hA hR S0 o0 
          go_wp2
          go_roundw
          case rel => exact ⟨k + 1, g5, _, _, by omega, by go_num, HLen.out, HP6.out, HA6.out, HR6.out, Or.inr ⟨c5, rfl, hg5l⟩, hlt6, HO6.out, HC6.out, HB6.out⟩
          case measure => simp [intOf]; omega
    · have hkn : k = K.length := by rw [HKk.out]
      have hkn2 : k = n := by omega
      subst hkn2
      rcases hvg with ⟨hk0, rfl⟩ | ⟨cp, rfl, hgl⟩
      · have e1 : K = [] := List.eq_nil_of_length_eq_zero (by omega)
        have e2 : J = [] := List.eq_nil_of_length_eq_zero (by rw [HJ.out]; exact hk0)
        obtain ⟨z0, z1, zf0, zf1⟩ := box2_cell hR
        obtain ⟨o0, o1, -, -⟩ := box2_cell hO
        obtain ⟨a0, a1, -, -⟩ := box2_cell hA
        go_wp2
        refine box2_post hR (fun w4 h4 gr => ?_)
        clear z0 z1 zf0 zf1 o0 o1 a0 a1
        obtain ⟨d0, d1, -, -⟩ := box2_cell h4
        exact bodyPost_ret (v := .agg #[.slice none 0 0, .int .i64 nx]) (by simp [results, Tryd.results37, go_sem, d0, d1]) rfl ⟨K, .slice none 0 0, rfl, .inl ⟨hk0, e1, rfl⟩, by rw [e1, e2], below_set hbel gr (by omega)⟩
      · have HD := hide (Copied.done (cp := cp) (hkn ▸ HCop.out) (by rw [HKk.out, HJ.out]) hgl (by rw [HKk.out]; exact HOwn.out))
        clear hkn
        obtain ⟨z0, z1, zf0, zf1⟩ := box2_cell hR
        obtain ⟨o0, o1, -, -⟩ := box2_cell hO
        obtain ⟨a0, a1, -, -⟩ := box2_cell hA
        go_wp2
        refine box2_post hR (fun w4 h4 gr => ?_)
        clear z0 z1 zf0 zf1 o0 o1 a0 a1
        obtain ⟨d0, d1, -, -⟩ := box2_cell h4
        exact bodyPost_ret (v := .agg #[.slice (some ⟨g, 0, none⟩) k cp, .int .i64 nx]) (by simp [results, Tryd.results37, go_sem, d0, d1]) rfl ⟨K, _, rfl, .inr ⟨g, cp, rfl, (HD.out.1.grown gr (by omega)).weaken (by omega)⟩, HD.out.2, below_set hbel gr (by omega)⟩
end Go.Proofs.YtaflokfgbmlmaadDoor
