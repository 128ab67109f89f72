/-
  What the tested functions on a token's text answer: tokL, its bytes. (They read the library's table of powers of ten.)
-/
import Derived.Test.YtfgcflfnpeapaaaGreatDoorTokP
import Derived.Test.YtfgcflfnpeapaaaGreatDoorTokI
import Derived.Test.YtfgcflfnpeapaaaGreatDoorShelf
import Derived.Test.YtfgcflfnpeapaaaGreatDoorTabT
import Derived.Lib.SmallJoins
import Derived.Deep.RegionHeld3
namespace Go.Proofs.YtfgcflfnpeapaaaGreatDoor
open Go.RowKit
set_option linter.unusedVariables false

/-- the library's table of powers of ten lies below B, and reads as its initialiser lays it -/
def TabB (B : Nat) (w : World) : Prop := Lib.TabBelow Tryz.prog B w "internal/strconv.uint64pow10" .u64 Lib.pow10Tab
theorem vals_byteCells (l : List UInt8) : Lib.byteCells l = vals l := rfl
theorem vals_strCells (s : ByteArray) : Lib.strCells s = vals s.data.toList := rfl

theorem one39 : ∀ u ∈ [Value.int .u8 39], u.oneCell' = true := by
  intro u hu
  obtain rfl := List.mem_singleton.1 hu
  rfl
theorem str_len (S : ByteArray) : S.data.toList.length = S.size := by rw [Array.length_toList]; rfl
theorem row_not_box {w : World} {base n size p : Nat} {T T' : TypeId} {v : Value} {xs : List Value} {cs : Array Value} (h : w.ownsRow base T size v n xs) (hp : w.heap[p]? = some (.cells cs T' (0, 0))) (hT : T ≠ T') : v.ownBlock ≠ some p := by
  intro e
  rcases h.2 with ⟨rfl, _⟩ | ⟨g, cap, cur, rfl, hb, hg, _⟩
  · cases e
  · simp only [Value.ownBlock, Option.some.injEq] at e
    rw [e, hp] at hg
    simp only [Option.some.injEq, Obj.cells.injEq] at hg
    exact hT hg.2.1.symm
/-- within addToken's region: the row so far, the token's box -/
structure Ad (w W : World) (base p : Nat) (K N : Int) (S : ByteArray) (v : Value) (bs : List UInt8) : Prop where
  own : W.ownsRow base 5 1 v bs.length (vals bs)
  box : W.heap[p]? = some (.cells #[.int .i64 K, .int .i64 N, .string S] 31 (0, 0))
  bel : Below base w W
  le : base ≤ W.heap.size
theorem Ad.cell {w W : World} {base p : Nat} {K N : Int} {S : ByteArray} {v : Value} {bs : List UInt8} (h : Ad w W base p K N S v bs) : W.cell? ⟨p, 2, none⟩ = some (.string S) := by
  obtain ⟨-, -, x2, -, -, -⟩ := box_cell h.box
  exact x2
theorem Ad.drew {w W : World} {base p : Nat} {K N : Int} {S : ByteArray} {v : Value} {bs : List UInt8} (h : Ad w W base p K N S v bs) : Ad w W.drew base p K N S v bs :=
  ⟨h.own, h.box, h.bel.drew, h.le⟩
theorem Ad.alloc {w W : World} {base p : Nat} {K N : Int} {S : ByteArray} {v : Value} {bs : List UInt8} (h : Ad w W base p K N S v bs) (o : Obj) : Ad w (W.alloc o) base p K N S v bs :=
  ⟨h.own.alloc o, box_old h.box (Array.getElem?_eq_some_iff.1 h.box).1 o, h.bel.alloc h.le o, by simp; have := h.le; omega⟩
theorem Ad.app {w W W' : World} {base p : Nat} {K N : Int} {S : ByteArray} {v v' : Value} {bs l : List UInt8} (h : Ad w W base p K N S v bs) (ho : W'.ownsRow base 5 1 v' (bs.length + l.length) (vals bs ++ vals l)) (gr : W.grownBy W' v.ownBlock) : Ad w W' base p K N S v' (bs ++ l) := by
  refine ⟨by rw [List.length_append, vals_append]; exact ho, ?_, h.bel.grown gr h.le (fun k hk => (World.ownsRow.lt h.own k hk).1), Nat.le_trans h.le gr.size⟩
  rw [gr.block p (Array.getElem?_eq_some_iff.1 h.box).1 (fun e => row_not_box h.own h.box (by decide) e.symm)]
  exact h.box
theorem ad_end {W : World} {base g c : Nat} {N : Int} {S : ByteArray} {bs : List UInt8} (hv : tokL 4 N S = 39 :: S.data.toList ++ [39]) (h : W.ownsRow base 5 1 (.slice (some ⟨g, 0, none⟩) ((bs ++ [39] ++ S.data.toList).length + 1) c) (bs ++ [39] ++ S.data.toList ++ [39]).length (vals (bs ++ [39] ++ S.data.toList ++ [39]))) :
    W.ownsRow base 5 1 (.slice (some ⟨g, 0, none⟩) (bs.length + (S.size + 1) + 1) c) (bs ++ tokL 4 N S).length (vals (bs ++ tokL 4 N S)) := by
  have e1 : bs ++ tokL 4 N S = bs ++ [39] ++ S.data.toList ++ [39] := by rw [hv]; simp
  have e2 : (bs ++ [39] ++ S.data.toList).length + 1 = bs.length + (S.size + 1) + 1 := by
    simp only [List.length_append, List.length_singleton, str_len]; omega
  rw [e1, ← e2]; exact h
/-- a literal of one byte, not in the row -/
def Lit (W : World) (v : Value) (x : Nat) : Prop := W.heap[x]? = some (.cells #[.int .u8 39] 5 (0, 0)) ∧ v.ownBlock ≠ some x
theorem Ad.lit {w W : World} {base p : Nat} {K N : Int} {S : ByteArray} {v : Value} {bs : List UInt8} (h : Ad w W base p K N S v bs) : Lit (W.alloc (.cells #[.int .u8 39] 5)) v W.heap.size :=
  ⟨heap_alloc_new _ _, fun e => by have := (World.ownsRow.lt h.own _ e).2; omega⟩
theorem Lit.drew {W : World} {v : Value} {x : Nat} (h : Lit W v x) : Lit W.drew v x := h
theorem Lit.lt {W : World} {v : Value} {x : Nat} (h : Lit W v x) : x < W.heap.size := (Array.getElem?_eq_some_iff.1 h.1).1
theorem Lit.alloc {W : World} {v : Value} {x : Nat} (h : Lit W v x) (o : Obj) : Lit (W.alloc o) v x := ⟨box_old h.1 h.lt o, h.2⟩
theorem Lit.str {W W' : World} {v : Value} {x : Nat} (h : Lit W v x) (gr : W.grownBy W' v.ownBlock) : W'.heap[x]? = some (.cells #[.int .u8 39] 5 (0, 0)) := by
  rw [gr.block x h.lt (fun e => h.2 e.symm)]; exact h.1
theorem Lit.app {W W' : World} {v : Value} {x g n c : Nat} (h : Lit W v x) (gr : W.grownBy W' v.ownBlock) (hat : v.ownBlock = some g ∨ g = W.heap.size) : Lit W' (.slice (some ⟨g, 0, none⟩) n c) x := by
  refine ⟨h.str gr, fun e => ?_⟩
  have e2 : g = x := Option.some.inj e
  subst e2
  rcases hat with e3 | e3
  · exact h.2 e3
  · have := h.lt; omega

set_option maxRecDepth 100000 in
set_option maxHeartbeats 3200000 in
theorem addToken_any (v : Value) (n base : Nat) (K N : Int) (S : ByteArray) (bs : List UInt8) (w : World) (hown : w.ownsRow base 5 1 v n (vals bs)) (hbase : base ≤ w.heap.size) (hn : bs.length ≤ 33554300) (hs : S.size ≤ maxLen) (ht : TabB base w) :
    Calls Tryz.prog 24 #[v, .agg #[.int .i64 K, .int .i64 N, .string S]] w fun e w' =>
      ∃ v', e = .returned v' ∧ w'.ownsRow base 5 1 v' (bs ++ tokL K N S).length (vals (bs ++ tokL K N S)) ∧ Below base w w' := by
  obtain ⟨i0, hi, hz0, hz1, hz2⟩ := info_parts Tryz.info5
  obtain rfl : n = bs.length := by have := hown.1; rw [vals_length] at this; omega
  have b0 := below_al w (.cells #[.int .i64 K, .int .i64 N, .string S] 31)
  have hX := box_new w (.int .i64 K) (.int .i64 N) (.string S) 31
  have hVl := fun (q : Nat) (h : v.ownBlock = some q) => (World.ownsRow.lt hown q h)
  have HT := hide ht
  clear ht
  go_enter Tryz.func24, Tryz.ntmps24
  go_wp2_with fail
  refine (implTokenOk_any K N S _ hs).mono ?_
  rintro e w1 ⟨rfl, hb1⟩
  have hX1 := box_below hX hb1 (by simp)
  have hB1 : Below w.heap.size w w1 := b0.trans (hb1.mono b0.size)
  have hO1 := rows_below hown hB1
  have hBb : Below base w w1 := hB1.mono hbase
  have hb1' : base ≤ w1.heap.size := Nat.le_trans hbase hB1.size
  have hp1 : w.heap.size < w1.heap.size := (Array.getElem?_eq_some_iff.1 hX1).1
  clear hb1 b0 hX hown
  obtain ⟨x0, x1, x2, -, -, -⟩ := box_cell hX1
  cases hv : tokB K N S
  · have HV := hide (tokL_no hv)
    have HO := hide hO1
    clear hv
    go_wp2
    go_ret
    exact ⟨v, rfl, by rw [HV.out, List.append_nil]; exact HO.out, hBb⟩
  · have hS := tokB_le hv
    by_cases h1 : K = 1
    · subst h1
      have HV := hide (tokL_num hv)
      have hr := tokB_range hv
      clear hv
      go_wp2_with fail
      refine (Tryz.strconv_AppendInt_10 base bs.length N (by omega) (by omega) v (vals bs) _ hO1 hb1' (by omega) (HT.out.on hBb)).mono ?_
      rintro e w2 ⟨v2, rfl, hO2, hb2, -⟩
      have HO2 : Hid (w2.ownsRow base 5 1 v2 (bs ++ tokL 1 N S).length (vals (bs ++ tokL 1 N S))) := by
        unfold Hid
        rw [HV.out, List.length_append, vals_append]
        exact hO2
      have hB2 : Below base w w2 := hBb.trans hb2
      clear hO2 hb2 hO1 hX1 x0 x1 x2
      go_wp2
      go_ret
      exact ⟨v2, rfl, HO2.out, hB2⟩
    · have k1 : (K == 1) = false := by simpa using h1
      by_cases h4 : K = 4
      · subst h4
        have HV := hide (tokL_text hv)
        clear hv h1
        have A0 : Ad w w1 base w.heap.size 4 N S v bs := ⟨hO1, hX1, hBb, hb1'⟩
        go_wp2_with fail
        refine wp_region_held_drew (S := fun W => W.cell? ⟨w.heap.size, 2, none⟩ = some (.string S)) (by kernel_rfl) x2 (fun hHeld => ?_)
        refine wpAnyH_take (i := 0) (oi := Oper.mk (some 22) _ _ _ _ _) (v := ?v1) rfl (by kernel_rfl) (by kernel_rfl) (by kernel_rfl) (fun _ _ _ h => h) (Or.inl ⟨by rfl, ?y1⟩) hHeld ?r1
        case y1 => (intro W hSW; go_simp; try with_reducible rfl)
        simp only [Act.put, List.setIfInBounds_toArray, List.set_cons_zero, List.set_cons_succ]
        refine wpAnyH_take (i := 3) (oi := Oper.mk (some 25) _ _ _ _ _) (v := ?v2) rfl (by kernel_rfl) (by kernel_rfl) (by kernel_rfl) (fun _ _ _ h => h) (Or.inl ⟨by rfl, ?y2⟩) hHeld ?r2
        case y2 => (intro W hSW; go_simp; try with_reducible rfl)
        simp only [Act.put, List.setIfInBounds_toArray, List.set_cons_zero, List.set_cons_succ]
        refine wpAnyH_take (i := 4) (oi := Oper.mk (some 26) _ _ _ _ _) (v := ?v3) rfl (by kernel_rfl) (by kernel_rfl) (by kernel_rfl) (fun _ _ _ h => h) (Or.inl ⟨by rfl, ?y3⟩) hHeld ?r3
        case y3 => (intro W hSW; go_simp; try with_reducible rfl)
        simp only [Act.put, List.setIfInBounds_toArray, List.set_cons_zero, List.set_cons_succ]
        refine wpAnyH_ready (rs := [1, 6]) (by kernel_rfl) (by simp) (AllReadyH.cons (o := Oper.mk (some 23) _ _ _ _ _) rfl (fun Kk hK => ?_) (AllReadyH.cons (o := Oper.mk (some 28) _ _ _ _ _) rfl (fun Kk hK => ?_) AllReadyH.nil))
        · have A1 := A0.alloc (.cells #[.int .u8 39] 5)
          have M1A := A0.lit
          try simp only [World.size_alloc] at M1A
          go_simp
          refine hK.out _ _ A1.drew.cell (fun hHeld => ?_)
          clear hK Kk
          refine wpAnyH_ready (rs := [2, 6]) (by kernel_rfl) (by simp) (AllReadyH.cons (o := Oper.mk (some 24) _ _ _ _ _) rfl (fun Kk hK => ?_) (AllReadyH.cons (o := Oper.mk (some 28) _ _ _ _ _) rfl (fun Kk hK => ?_) AllReadyH.nil))
          · refine step_append_lies _ rfl (.tmp 22) (.tmp 23) 22 rfl base 5 i0 (.int .u8 0) 1 1 Tryz.underlying22 hi hz0 hz1 hz2 rfl (by omega) _ _ _ rfl A1.drew.own ⟨_, 0, none⟩ 1 1 [.int .u8 39] rfl rfl (World.news_of_block M1A.drew.1) one39 (by omega) (by unfold maxLen; simp; omega) (by simp; omega) A1.drew.le _ rfl ?_
            intro g2 c2 w2 o2 gr2 at2 _
            have A2 := A1.drew.app (l := [39]) o2 gr2
            refine hK.out _ _ A2.cell (fun hHeld => ?_)
            clear hK Kk
            refine wpAnyH_ready (rs := [5, 6]) (by kernel_rfl) (by simp) (AllReadyH.cons (o := Oper.mk (some 27) _ _ _ _ _) rfl (fun Kk hK => ?_) (AllReadyH.cons (o := Oper.mk (some 28) _ _ _ _ _) rfl (fun Kk hK => ?_) AllReadyH.nil))
            · refine step_append_str _ rfl (.tmp 24) (.tmp 26) 22 9 rfl base 5 i0 Tryz.underlying22 Tryz.underlying9 hi hz0 hz1 hz2 _ _ _ rfl A2.own S rfl (by unfold maxLen; simp; omega) (by simp; omega) A2.le ?_
              intro v3 w3 o3 gr3
              have A3 := A2.app (l := S.data.toList) (by rw [str_len]; exact o3) gr3
              refine hK.out _ _ A3.cell (fun hHeld => ?_)
              clear hK Kk
              refine wpAnyH_ready (rs := [6]) (by kernel_rfl) (by simp) (AllReadyH.cons (o := Oper.mk (some 28) _ _ _ _ _) rfl (fun Kk hK => ?_) AllReadyH.nil)
              have A4 := A3.alloc (.cells #[.int .u8 39] 5)
              have M4D := A3.lit
              try simp only [World.size_alloc] at M4D
              go_simp
              refine hK.out _ _ A4.cell (fun hHeld => ?_)
              clear hK Kk
              refine wpAnyH_ready (rs := [7]) (by kernel_rfl) (by simp) (AllReadyH.cons (o := Oper.mk (some 29) _ _ _ _ _) rfl (fun Kk hK => ?_) AllReadyH.nil)
              refine step_append_lies _ rfl (.tmp 27) (.tmp 28) 22 rfl base 5 i0 (.int .u8 0) 1 1 Tryz.underlying22 hi hz0 hz1 hz2 rfl (by omega) _ _ _ rfl A4.own ⟨_, 0, none⟩ 1 1 [.int .u8 39] rfl rfl (World.news_of_block M4D.1) one39 (by omega) (by unfold maxLen; simp; omega) (by simp; omega) A4.le _ rfl ?_
              intro g5 c5 w5 o5 gr5 at5 _
              have A5 := A4.app (l := [39]) o5 gr5
              refine hK.out _ _ A5.cell (fun hHeld => ?_)
              clear hK Kk
              refine wpAnyH_take (i := 8) (oi := Oper.mk (some 4) _ _ _ _ _) (v := ?v4) rfl (by kernel_rfl) (by kernel_rfl) (by kernel_rfl) (fun _ _ _ h => h) (Or.inl ⟨by rfl, ?y4⟩) hHeld ?r4
              case y4 => (intro W hSW; go_simp; try with_reducible rfl)
              simp only [Act.put, List.setIfInBounds_toArray, List.set_cons_zero, List.set_cons_succ]
              refine wpAnyH_done (by kernel_rfl) ?_ _
              have HB := hide A5.bel
              have HO : Hid (w5.ownsRow base 5 1 (.slice (some ⟨g5, 0, none⟩) (bs.length + (S.size + 1) + 1) c5) (bs ++ tokL 4 N S).length (vals (bs ++ tokL 4 N S))) := ad_end HV.out A5.own
              clear hHeld
              go_wp2
              go_ret
              exact ⟨_, rfl, by first | exact HO.out | (rw [← List.length_append]; exact HO.out), HB.out⟩
            · have A3 := A2.alloc (.cells #[.int .u8 39] 5)
              have M3D := A2.lit
              try simp only [World.size_alloc] at M3D
              go_simp
              refine hK.out _ _ A3.cell (fun hHeld => ?_)
              clear hK Kk
              refine wpAnyH_ready (rs := [5]) (by kernel_rfl) (by simp) (AllReadyH.cons (o := Oper.mk (some 27) _ _ _ _ _) rfl (fun Kk hK => ?_) AllReadyH.nil)
              refine step_append_str _ rfl (.tmp 24) (.tmp 26) 22 9 rfl base 5 i0 Tryz.underlying22 Tryz.underlying9 hi hz0 hz1 hz2 _ _ _ rfl A3.own S rfl (by unfold maxLen; simp; omega) (by simp; omega) A3.le ?_
              intro v4 w4 o4 gr4
              have A4 := A3.app (l := S.data.toList) (by rw [str_len]; exact o4) gr4
              have M4D := M3D.str gr4
              refine hK.out _ _ A4.cell (fun hHeld => ?_)
              clear hK Kk
              refine wpAnyH_ready (rs := [7]) (by kernel_rfl) (by simp) (AllReadyH.cons (o := Oper.mk (some 29) _ _ _ _ _) rfl (fun Kk hK => ?_) AllReadyH.nil)
              refine step_append_lies _ rfl (.tmp 27) (.tmp 28) 22 rfl base 5 i0 (.int .u8 0) 1 1 Tryz.underlying22 hi hz0 hz1 hz2 rfl (by omega) _ _ _ rfl A4.own ⟨_, 0, none⟩ 1 1 [.int .u8 39] rfl rfl (World.news_of_block M4D) one39 (by omega) (by unfold maxLen; simp; omega) (by simp; omega) A4.le _ rfl ?_
              intro g5 c5 w5 o5 gr5 at5 _
              have A5 := A4.app (l := [39]) o5 gr5
              refine hK.out _ _ A5.cell (fun hHeld => ?_)
              clear hK Kk
              refine wpAnyH_take (i := 8) (oi := Oper.mk (some 4) _ _ _ _ _) (v := ?v5) rfl (by kernel_rfl) (by kernel_rfl) (by kernel_rfl) (fun _ _ _ h => h) (Or.inl ⟨by rfl, ?y5⟩) hHeld ?r5
              case y5 => (intro W hSW; go_simp; try with_reducible rfl)
              simp only [Act.put, List.setIfInBounds_toArray, List.set_cons_zero, List.set_cons_succ]
              refine wpAnyH_done (by kernel_rfl) ?_ _
              have HB := hide A5.bel
              have HO : Hid (w5.ownsRow base 5 1 (.slice (some ⟨g5, 0, none⟩) (bs.length + (S.size + 1) + 1) c5) (bs ++ tokL 4 N S).length (vals (bs ++ tokL 4 N S))) := ad_end HV.out A5.own
              clear hHeld
              go_wp2
              go_ret
              exact ⟨_, rfl, by first | exact HO.out | (rw [← List.length_append]; exact HO.out), HB.out⟩
          · have A2 := A1.alloc (.cells #[.int .u8 39] 5)
            have M2D := A1.lit
            try simp only [World.size_alloc] at M2D
            have M2A := M1A.alloc (.cells #[.int .u8 39] 5)
            go_simp
            refine hK.out _ _ A2.drew.cell (fun hHeld => ?_)
            clear hK Kk
            refine wpAnyH_ready (rs := [2]) (by kernel_rfl) (by simp) (AllReadyH.cons (o := Oper.mk (some 24) _ _ _ _ _) rfl (fun Kk hK => ?_) AllReadyH.nil)
            refine step_append_lies _ rfl (.tmp 22) (.tmp 23) 22 rfl base 5 i0 (.int .u8 0) 1 1 Tryz.underlying22 hi hz0 hz1 hz2 rfl (by omega) _ _ _ rfl A2.drew.own ⟨_, 0, none⟩ 1 1 [.int .u8 39] rfl rfl (World.news_of_block M2A.drew.1) one39 (by omega) (by unfold maxLen; simp; omega) (by simp; omega) A2.drew.le _ rfl ?_
            intro g3 c3 w3 o3 gr3 at3 _
            have A3 := A2.drew.app (l := [39]) o3 gr3
            have M3D := M2D.drew.app (n := bs.length + 1) (c := c3) gr3 at3
            refine hK.out _ _ A3.cell (fun hHeld => ?_)
            clear hK Kk
            refine wpAnyH_ready (rs := [5]) (by kernel_rfl) (by simp) (AllReadyH.cons (o := Oper.mk (some 27) _ _ _ _ _) rfl (fun Kk hK => ?_) AllReadyH.nil)
            refine step_append_str _ rfl (.tmp 24) (.tmp 26) 22 9 rfl base 5 i0 Tryz.underlying22 Tryz.underlying9 hi hz0 hz1 hz2 _ _ _ rfl A3.own S rfl (by unfold maxLen; simp; omega) (by simp; omega) A3.le ?_
            intro v4 w4 o4 gr4
            have A4 := A3.app (l := S.data.toList) (by rw [str_len]; exact o4) gr4
            have M4D := M3D.str gr4
            refine hK.out _ _ A4.cell (fun hHeld => ?_)
            clear hK Kk
            refine wpAnyH_ready (rs := [7]) (by kernel_rfl) (by simp) (AllReadyH.cons (o := Oper.mk (some 29) _ _ _ _ _) rfl (fun Kk hK => ?_) AllReadyH.nil)
            refine step_append_lies _ rfl (.tmp 27) (.tmp 28) 22 rfl base 5 i0 (.int .u8 0) 1 1 Tryz.underlying22 hi hz0 hz1 hz2 rfl (by omega) _ _ _ rfl A4.own ⟨_, 0, none⟩ 1 1 [.int .u8 39] rfl rfl (World.news_of_block M4D) one39 (by omega) (by unfold maxLen; simp; omega) (by simp; omega) A4.le _ rfl ?_
            intro g5 c5 w5 o5 gr5 at5 _
            have A5 := A4.app (l := [39]) o5 gr5
            refine hK.out _ _ A5.cell (fun hHeld => ?_)
            clear hK Kk
            refine wpAnyH_take (i := 8) (oi := Oper.mk (some 4) _ _ _ _ _) (v := ?v6) rfl (by kernel_rfl) (by kernel_rfl) (by kernel_rfl) (fun _ _ _ h => h) (Or.inl ⟨by rfl, ?y6⟩) hHeld ?r6
            case y6 => (intro W hSW; go_simp; try with_reducible rfl)
            simp only [Act.put, List.setIfInBounds_toArray, List.set_cons_zero, List.set_cons_succ]
            refine wpAnyH_done (by kernel_rfl) ?_ _
            have HB := hide A5.bel
            have HO : Hid (w5.ownsRow base 5 1 (.slice (some ⟨g5, 0, none⟩) (bs.length + (S.size + 1) + 1) c5) (bs ++ tokL 4 N S).length (vals (bs ++ tokL 4 N S))) := ad_end HV.out A5.own
            clear hHeld
            go_wp2
            go_ret
            exact ⟨_, rfl, by first | exact HO.out | (rw [← List.length_append]; exact HO.out), HB.out⟩
        · have A1 := A0.alloc (.cells #[.int .u8 39] 5)
          have M1D := A0.lit
          try simp only [World.size_alloc] at M1D
          go_simp
          refine hK.out _ _ A1.drew.cell (fun hHeld => ?_)
          clear hK Kk
          refine wpAnyH_ready (rs := [1]) (by kernel_rfl) (by simp) (AllReadyH.cons (o := Oper.mk (some 23) _ _ _ _ _) rfl (fun Kk hK => ?_) AllReadyH.nil)
          have A2 := A1.alloc (.cells #[.int .u8 39] 5)
          have M2A := A1.lit
          try simp only [World.size_alloc] at M2A
          have M2D := M1D.alloc (.cells #[.int .u8 39] 5)
          go_simp
          refine hK.out _ _ A2.drew.cell (fun hHeld => ?_)
          clear hK Kk
          refine wpAnyH_ready (rs := [2]) (by kernel_rfl) (by simp) (AllReadyH.cons (o := Oper.mk (some 24) _ _ _ _ _) rfl (fun Kk hK => ?_) AllReadyH.nil)
          refine step_append_lies _ rfl (.tmp 22) (.tmp 23) 22 rfl base 5 i0 (.int .u8 0) 1 1 Tryz.underlying22 hi hz0 hz1 hz2 rfl (by omega) _ _ _ rfl A2.drew.own ⟨_, 0, none⟩ 1 1 [.int .u8 39] rfl rfl (World.news_of_block M2A.drew.1) one39 (by omega) (by unfold maxLen; simp; omega) (by simp; omega) A2.drew.le _ rfl ?_
          intro g3 c3 w3 o3 gr3 at3 _
          have A3 := A2.drew.app (l := [39]) o3 gr3
          have M3D := M2D.drew.app (n := bs.length + 1) (c := c3) gr3 at3
          refine hK.out _ _ A3.cell (fun hHeld => ?_)
          clear hK Kk
          refine wpAnyH_ready (rs := [5]) (by kernel_rfl) (by simp) (AllReadyH.cons (o := Oper.mk (some 27) _ _ _ _ _) rfl (fun Kk hK => ?_) AllReadyH.nil)
          refine step_append_str _ rfl (.tmp 24) (.tmp 26) 22 9 rfl base 5 i0 Tryz.underlying22 Tryz.underlying9 hi hz0 hz1 hz2 _ _ _ rfl A3.own S rfl (by unfold maxLen; simp; omega) (by simp; omega) A3.le ?_
          intro v4 w4 o4 gr4
          have A4 := A3.app (l := S.data.toList) (by rw [str_len]; exact o4) gr4
          have M4D := M3D.str gr4
          refine hK.out _ _ A4.cell (fun hHeld => ?_)
          clear hK Kk
          refine wpAnyH_ready (rs := [7]) (by kernel_rfl) (by simp) (AllReadyH.cons (o := Oper.mk (some 29) _ _ _ _ _) rfl (fun Kk hK => ?_) AllReadyH.nil)
          refine step_append_lies _ rfl (.tmp 27) (.tmp 28) 22 rfl base 5 i0 (.int .u8 0) 1 1 Tryz.underlying22 hi hz0 hz1 hz2 rfl (by omega) _ _ _ rfl A4.own ⟨_, 0, none⟩ 1 1 [.int .u8 39] rfl rfl (World.news_of_block M4D) one39 (by omega) (by unfold maxLen; simp; omega) (by simp; omega) A4.le _ rfl ?_
          intro g5 c5 w5 o5 gr5 at5 _
          have A5 := A4.app (l := [39]) o5 gr5
          refine hK.out _ _ A5.cell (fun hHeld => ?_)
          clear hK Kk
          refine wpAnyH_take (i := 8) (oi := Oper.mk (some 4) _ _ _ _ _) (v := ?v7) rfl (by kernel_rfl) (by kernel_rfl) (by kernel_rfl) (fun _ _ _ h => h) (Or.inl ⟨by rfl, ?y7⟩) hHeld ?r7
          case y7 => (intro W hSW; go_simp; try with_reducible rfl)
          simp only [Act.put, List.setIfInBounds_toArray, List.set_cons_zero, List.set_cons_succ]
          refine wpAnyH_done (by kernel_rfl) ?_ _
          have HB := hide A5.bel
          have HO : Hid (w5.ownsRow base 5 1 (.slice (some ⟨g5, 0, none⟩) (bs.length + (S.size + 1) + 1) c5) (bs ++ tokL 4 N S).length (vals (bs ++ tokL 4 N S))) := ad_end HV.out A5.own
          clear hHeld
          go_wp2
          go_ret
          exact ⟨_, rfl, by first | exact HO.out | (rw [← List.length_append]; exact HO.out), HB.out⟩
      · have k4 : (K == 4) = false := by simpa using h4
        have HV := hide (tokL_word hv h1 h4)
        clear hv h1 h4
        go_wp2_with (at_builtin; refine Lib.wpList_append_own_string _ rfl (.tmp 30) (.tmp 32) 22 9 rfl base 5 i0 Tryz.underlying22 Tryz.underlying9 hi hz0 hz1 hz2 _ _ _ rfl hO1 S rfl (by unfold maxLen; omega) (by omega) hb1' ?_)
        intro v2 w2 hO2 hg2 _
        have HO2 : Hid (w2.ownsRow base 5 1 v2 (bs ++ tokL K N S).length (vals (bs ++ tokL K N S))) := by
          unfold Hid
          rw [HV.out, List.length_append, vals_append]
          exact hO2
        have hB2 : Below base w w2 := hBb.grown hg2 hb1' (fun k hk => (hVl k hk).1)
        clear hO2 hg2 hO1 hX1 x0 x1 x2
        go_wp2
        go_ret
        exact ⟨v2, rfl, HO2.out, hB2⟩

set_option maxRecDepth 100000 in
set_option maxHeartbeats 1600000 in
theorem implTokenText_any (K N : Int) (S : ByteArray) (w : World) (hs : S.size ≤ maxLen) (ht : Tab w) :
    Calls Tryz.prog 38 #[.agg #[.int .i64 K, .int .i64 N, .string S]] w fun e w' => e = .returned (.string ⟨(tokL K N S).toArray⟩) ∧ Below w.heap.size w w' := by
  have b0 := below_al w (.cells #[.int .i64 K, .int .i64 N, .string S] 31)
  have HT := hide (Lib.tabBelow_of_tabIs (ht.later b0 (Nat.le_refl _)))
  clear ht
  go_enter Tryz.func38, Tryz.ntmps38
  go_wp2_with fail
  refine (addToken_any (.slice none 0 0) 0 _ K N S [] _ (World.ownsRow_nil _ _ _ _) (Nat.le_refl _) (by simp) hs HT.out).mono ?_
  rintro e w1 ⟨v1, rfl, hO, hb⟩
  have hB := b0.trans (hb.mono b0.size)
  have hcv := conv_row hO
  simp only [List.nil_append] at hcv
  clear hO hb b0
  go_wp2
  go_ret
  exact ⟨rfl, hB⟩
end Go.Proofs.YtfgcflfnpeapaaaGreatDoor
