/-
  The contracts of the laws' own helpers on rows of Conds: to copies, sz counts off, eq finds a row the same as itself.
-/
import Derived.Test.YtfgigcdfmkfkjaaJLawCond
import Derived.Deep.RegionHeld3
namespace Go.Proofs.Ytfgigcdfmkfkjaa
open Go.RowKit
set_option linter.unusedVariables false

set_option maxRecDepth 100000 in
set_option maxHeartbeats 3200000 in
theorem toCondS_at (a : Option Addr) (cap : Nat) (L : List C11) (w : World) (hr : RdCond w a L) (hn : L.length ≤ 1048576) :
    Calls Try.prog 56 #[.slice a L.length cap] w fun e w' =>
      e = .returned (.slice (some ⟨w.heap.size, 0, none⟩) L.length L.length) ∧ w'.ownsRow w.heap.size 162 11 (.slice (some ⟨w.heap.size, 0, none⟩) L.length L.length) L.length (rowOf C11.cs L) ∧ Below w.heap.size w w' := by
  obtain ⟨i0, hi, hz0, hz1, hz2⟩ := info_parts Try.info162
  obtain ⟨n, hN⟩ : ∃ n, n = L.length := ⟨_, rfl⟩
  rw [← hN] at hn ⊢
  have HN := hide hN
  clear hN
  have hmade := rowOf_made (f := C11.cs) (x := C11.zero) (cs := #[.int .i64 0, .int .i64 0, .string ⟨#[]⟩, .int .i64 0, .int .i64 0, .string ⟨#[]⟩, .int .i64 0, .string ⟨#[]⟩, .int .i64 0, .int .i64 0, .string ⟨#[]⟩]) rfl (by decide) n
  go_enter Try.func56, Try.ntmps56
  go_wp2_with (at_make; refine wpList_make_full _ rfl _ _ 46 rfl w.heap.size 162 i0 (.agg #[.int .i64 0, .int .i64 0, .string ⟨#[]⟩, .int .i64 0, .int .i64 0, .string ⟨#[]⟩, .int .i64 0, .string ⟨#[]⟩, .int .i64 0, .int .i64 0, .string ⟨#[]⟩]) 11 Try.underlying46 hi hz0 hz1 _ _ _ _ n rfl rfl (by omega) (by omega) ?b2 ?b3 (Nat.le_refl _) ?_)
  case b2 => rw [hz2]; omega
  case b3 => unfold maxLen; omega
  intro w0 hown0 hgrow0
  have hown0' : w0.ownsRow w.heap.size 162 11 (.slice (some ⟨w.heap.size, 0, none⟩) n n) n (rowOf C11.cs (List.replicate n C11.zero)) := by rw [← hmade]; exact hown0
  clear hown0 hmade
  go_wp2
  go_loopw [4] (fun i wr => ∃ k : Nat, k ≤ n ∧ i = .int .i64 k ∧ wr.ownsRow w.heap.size 162 11 (.slice (some ⟨w.heap.size, 0, none⟩) n n) n (rowOf C11.cs (partK L C11.zero k)) ∧ Below w.heap.size w wr)
    (fun i _ => n - (intOf i).toNat)
  case atStart =>
    refine ⟨0, Nat.zero_le _, rfl, ?_, (Below.refl _ _).grown hgrow0 (Nat.le_refl _) (fun k h => by cases h)⟩
    rw [partK_zero, ← HN.out]
    exact hown0'
  case round =>
    obtain ⟨k, hk, rfl, hown, hbel⟩ := hrel
    by_cases hlt : k < n
    · obtain ⟨b, off, hab, hbw, hc⟩ := RdCond.cells hr (by rw [← HN.out]; omega)
      obtain ⟨c0, c1, c2, c3, c4, c5, c6, c7, c8, c9, c10⟩ := hc k (by rw [← HN.out]; exact hlt)
      clear hc
      subst hab
      rw [← hbel.cell (p := ⟨b, off + k * 11, none⟩) hbw] at c0
      rw [← hbel.cell (p := ⟨b, off + k * 11 + 1, none⟩) hbw] at c1
      rw [← hbel.cell (p := ⟨b, off + k * 11 + 2, none⟩) hbw] at c2
      rw [← hbel.cell (p := ⟨b, off + k * 11 + 3, none⟩) hbw] at c3
      rw [← hbel.cell (p := ⟨b, off + k * 11 + 4, none⟩) hbw] at c4
      rw [← hbel.cell (p := ⟨b, off + k * 11 + 5, none⟩) hbw] at c5
      rw [← hbel.cell (p := ⟨b, off + k * 11 + 6, none⟩) hbw] at c6
      rw [← hbel.cell (p := ⟨b, off + k * 11 + 7, none⟩) hbw] at c7
      rw [← hbel.cell (p := ⟨b, off + k * 11 + 8, none⟩) hbw] at c8
      rw [← hbel.cell (p := ⟨b, off + k * 11 + 9, none⟩) hbw] at c9
      rw [← hbel.cell (p := ⟨b, off + k * 11 + 10, none⟩) hbw] at c10
      go_wp2_with fail
      refine (toCond_any _ _ _ _ _ _ _ _ _ _ _ _).mono ?_
      rintro e w2 ⟨rfl, hb2⟩
      have hown2 : w2.ownsRow w.heap.size 162 11 (.slice (some ⟨w.heap.size, 0, none⟩) n n) n (rowOf C11.cs (partK L C11.zero k)) := ownsRow_below' hown hb2
      have hbel2 : Below w.heap.size w w2 := hbel.trans (hb2.mono hbel.size)
      have hlen : (rowOf C11.cs (partK L C11.zero k)).length = n * 11 := by rw [rowOf_length C11.len, partK_length (by rw [← HN.out]; omega), ← HN.out]
      have hmem : ∀ j, j < 11 → ∃ u, w2.cell? ⟨w.heap.size, k * 11 + j, none⟩ = some u := fun j hj => by
        rw [hown2.cellAt (k * 11 + j) (by omega), List.getElem?_eq_getElem (by omega)]
        exact ⟨_, rfl⟩
      obtain ⟨u0, m0⟩ := hmem 0 (by omega)
      obtain ⟨u1, m1⟩ := hmem 1 (by omega)
      obtain ⟨u2, m2⟩ := hmem 2 (by omega)
      obtain ⟨u3, m3⟩ := hmem 3 (by omega)
      obtain ⟨u4, m4⟩ := hmem 4 (by omega)
      obtain ⟨u5, m5⟩ := hmem 5 (by omega)
      obtain ⟨u6, m6⟩ := hmem 6 (by omega)
      obtain ⟨u7, m7⟩ := hmem 7 (by omega)
      obtain ⟨u8, m8⟩ := hmem 8 (by omega)
      obtain ⟨u9, m9⟩ := hmem 9 (by omega)
      obtain ⟨u10, m10⟩ := hmem 10 (by omega)
      rw [Nat.add_zero] at m0
      have f0 := hown2.frozenAt (k * 11)
      have f1 := hown2.frozenAt (k * 11 + 1)
      have f2 := hown2.frozenAt (k * 11 + 2)
      have f3 := hown2.frozenAt (k * 11 + 3)
      have f4 := hown2.frozenAt (k * 11 + 4)
      have f5 := hown2.frozenAt (k * 11 + 5)
      have f6 := hown2.frozenAt (k * 11 + 6)
      have f7 := hown2.frozenAt (k * 11 + 7)
      have f8 := hown2.frozenAt (k * 11 + 8)
      have f9 := hown2.frozenAt (k * 11 + 9)
      have f10 := hown2.frozenAt (k * 11 + 10)
      have HO := hide (((((((((((hown2.stored (k * 11) (.int .i64 (eAt L k).Op)).1.stored (k * 11 + 1) (.int .i64 (eAt L k).L.K)).1.stored (k * 11 + 2) (.string (eAt L k).L.S)).1.stored (k * 11 + 3) (.int .i64 (eAt L k).L.V.K)).1.stored (k * 11 + 4) (.int .i64 (eAt L k).L.V.N)).1.stored (k * 11 + 5) (.string (eAt L k).L.V.S)).1.stored (k * 11 + 6) (.int .i64 (eAt L k).R.K)).1.stored (k * 11 + 7) (.string (eAt L k).R.S)).1.stored (k * 11 + 8) (.int .i64 (eAt L k).R.V.K)).1.stored (k * 11 + 9) (.int .i64 (eAt L k).R.V.N)).1.stored (k * 11 + 10) (.string (eAt L k).R.V.S)).1
      have HB : Hid (Below w.heap.size w (((((((((((w2.setCell ⟨w.heap.size, k * 11, none⟩ (.int .i64 (eAt L k).Op)).setCell ⟨w.heap.size, k * 11 + 1, none⟩ (.int .i64 (eAt L k).L.K)).setCell ⟨w.heap.size, k * 11 + 2, none⟩ (.string (eAt L k).L.S)).setCell ⟨w.heap.size, k * 11 + 3, none⟩ (.int .i64 (eAt L k).L.V.K)).setCell ⟨w.heap.size, k * 11 + 4, none⟩ (.int .i64 (eAt L k).L.V.N)).setCell ⟨w.heap.size, k * 11 + 5, none⟩ (.string (eAt L k).L.V.S)).setCell ⟨w.heap.size, k * 11 + 6, none⟩ (.int .i64 (eAt L k).R.K)).setCell ⟨w.heap.size, k * 11 + 7, none⟩ (.string (eAt L k).R.S)).setCell ⟨w.heap.size, k * 11 + 8, none⟩ (.int .i64 (eAt L k).R.V.K)).setCell ⟨w.heap.size, k * 11 + 9, none⟩ (.int .i64 (eAt L k).R.V.N)).setCell ⟨w.heap.size, k * 11 + 10, none⟩ (.string (eAt L k).R.V.S))) := (((((((((((hbel2.setCell (Nat.le_refl _) _).setCell (Nat.le_refl _) _).setCell (Nat.le_refl _) _).setCell (Nat.le_refl _) _).setCell (Nat.le_refl _) _).setCell (Nat.le_refl _) _).setCell (Nat.le_refl _) _).setCell (Nat.le_refl _) _).setCell (Nat.le_refl _) _).setCell (Nat.le_refl _) _).setCell (Nat.le_refl _) _)
      rw [rowOf_set_C11 (eAt L k) _ k (by rw [partK_length (by rw [← HN.out]; omega), ← HN.out]; exact hlt), partK_set (by rw [← HN.out]; exact hlt)] at HO
      clear hmem hlen c0 c1 c2 c3 c4 c5 c6 c7 c8 c9 c10 hown hbel hb2 hown2 hbel2
      go_wp2
      go_roundw
      case rel => exact ⟨k + 1, by omega, by go_num, HO.out, HB.out⟩
      case measure => simp [intOf]; omega
    · have HE : Hid (wr.ownsRow w.heap.size 162 11 (.slice (some ⟨w.heap.size, 0, none⟩) n n) n (rowOf C11.cs L)) := by
        have hkn : k = L.length := by rw [← HN.out]; omega
        rw [hkn, partK_end] at hown
        exact hown
      clear hown
      go_wp2
      go_ret
      exact ⟨rfl, HE.out, hbel⟩

set_option maxRecDepth 100000 in
set_option maxHeartbeats 1600000 in
theorem szCondS_any (a : Option Addr) (cap : Nat) (L : List C11) (left : Int) (w : World) (hr : RdCond w a L) (hs : ∀ x ∈ L, x.fits) (hm : L.length ≤ maxLen) (h0 : 0 ≤ left) (h1 : left ≤ 1048576) :
    Calls Try.prog 50 #[.slice a L.length cap, .int .i64 left] w fun e w' =>
      (∃ r, e = .returned (.int .i64 r) ∧ (r = -1 ∨ (0 ≤ r ∧ r + (L.length : Int) ≤ left ∧ ∀ x ∈ L, x.small))) ∧ Below w.heap.size w w' := by
  unfold maxLen at hm
  obtain ⟨n, hN⟩ : ∃ n, n = L.length := ⟨_, rfl⟩
  rw [← hN] at hm ⊢
  have HN := hide hN
  have HS := hide hs
  clear hN hs
  by_cases h2 : left - (n : Int) < 0
  · go_enter Try.func50, Try.ntmps50
    go_wp2
    go_ret
    exact ⟨⟨-1, rfl, .inl rfl⟩, Below.refl _ _⟩
  · go_enter Try.func50, Try.ntmps50
    go_wp2
    go_loopw [1, 5] (fun l i wr => ∃ (k : Nat) (lf : Int), k ≤ n ∧ i = .int .i64 k ∧ l = .int .i64 lf ∧ 0 ≤ lf ∧ lf ≤ left - n ∧ (∀ j, j < k → (eAt L j).small) ∧ Below w.heap.size w wr) (fun _ i _ => n - (intOf i).toNat)
    case atStart => exact ⟨0, left - n, Nat.zero_le _, rfl, rfl, by omega, Int.le_refl _, fun j hj => absurd hj (Nat.not_lt_zero _), Below.refl _ _⟩
    case round =>
      obtain ⟨k, lf, hk, rfl, rfl, hlf, hle, hsm, hbel⟩ := hrel
      have HSm := hide hsm
      clear hsm
      by_cases hlt : k < n
      · obtain ⟨b, off, hab, hbw, hc⟩ := RdCond.cells hr (by rw [← HN.out]; omega)
        obtain ⟨c0, c1, c2, c3, c4, c5, c6, c7, c8, c9, c10⟩ := hc k (by rw [← HN.out]; exact hlt)
        clear hc
        subst hab
        rw [← hbel.cell (p := ⟨b, off + k * 11, none⟩) hbw] at c0
        rw [← hbel.cell (p := ⟨b, off + k * 11 + 1, none⟩) hbw] at c1
        rw [← hbel.cell (p := ⟨b, off + k * 11 + 2, none⟩) hbw] at c2
        rw [← hbel.cell (p := ⟨b, off + k * 11 + 3, none⟩) hbw] at c3
        rw [← hbel.cell (p := ⟨b, off + k * 11 + 4, none⟩) hbw] at c4
        rw [← hbel.cell (p := ⟨b, off + k * 11 + 5, none⟩) hbw] at c5
        rw [← hbel.cell (p := ⟨b, off + k * 11 + 6, none⟩) hbw] at c6
        rw [← hbel.cell (p := ⟨b, off + k * 11 + 7, none⟩) hbw] at c7
        rw [← hbel.cell (p := ⟨b, off + k * 11 + 8, none⟩) hbw] at c8
        rw [← hbel.cell (p := ⟨b, off + k * 11 + 9, none⟩) hbw] at c9
        rw [← hbel.cell (p := ⟨b, off + k * 11 + 10, none⟩) hbw] at c10
        have hS : (eAt L k).fits := by rw [eAt_in (by rw [← HN.out]; exact hlt)]; exact HS.out _ (List.getElem_mem _)
        obtain ⟨⟨hS0, hS1⟩, hS2, hS3⟩ := hS
        go_wp2_with fail
        refine (szCond_any _ _ _ _ _ _ _ _ _ _ _ lf _ hS0 hS1 hS2 hS3 hlf (by omega)).mono ?_
        rintro e w2 ⟨⟨r, rfl, hr2⟩, hb2⟩
        have hbel2 : Below w.heap.size w w2 := hbel.trans (hb2.mono hbel.size)
        clear hb2 c0 c1 c2 c3 c4 c5 c6 c7 c8 c9 c10 hbel
        rcases hr2 with rfl | ⟨h3, h4⟩
        · go_wp2
          go_ret
          exact ⟨⟨-1, rfl, .inl rfl⟩, hbel2⟩
        · have HSk : Hid ((eAt L k).small) := ⟨⟨by omega, by omega⟩, by omega, by omega⟩
          have h5 : r ≤ lf := by omega
          clear h4
          go_wp2
          go_roundw
          case rel => exact ⟨k + 1, r, by omega, by go_num, rfl, h3, by omega, fun j hj => by
              by_cases hjk : j = k
              · rw [hjk]; exact HSk.out
              · exact HSm.out j (by omega), hbel2⟩
          case measure => simp [intOf]; omega
      · have HAll : Hid (∀ x ∈ L, x.small) := fun x hx => by
          obtain ⟨j, hj, rfl⟩ := List.getElem_of_mem hx
          rw [← eAt_in hj]
          exact HSm.out j (by rw [← HN.out] at hj; omega)
        go_wp2
        go_ret
        exact ⟨⟨lf, rfl, .inr ⟨hlf, by omega, HAll.out⟩⟩, hbel⟩

theorem toCondS_ex (a : Option Addr) (cap : Nat) (L : List C11) (w : World) (hr : RdCond w a L) (hn : L.length ≤ 1048576) :
    Calls Try.prog 56 #[.slice a L.length cap] w fun e w' =>
      ∃ g, e = .returned (.slice (some ⟨g, 0, none⟩) L.length L.length) ∧ w.heap.size ≤ g ∧ OwnCond w' g L.length L ∧ Below w.heap.size w w' :=
  (toCondS_at a cap L w hr hn).mono fun e w' h => ⟨w.heap.size, h.1, Nat.le_refl _, OwnK.of C11.len (by decide) h.2.1, h.2.2⟩

theorem keepCond {w0 W w' : World} {B : Nat} {p0 p1 p2 p3 p4 p5 p6 p7 p8 p9 p10 p11 p12 p13 p14 p15 p16 p17 p18 p19 p20 p21 : Addr} {v0 v1 v2 v3 v4 v5 v6 v7 v8 v9 v10 v11 v12 v13 v14 v15 v16 v17 v18 v19 v20 v21 : Value} (hb : Below W.heap.size W w')
    (h : W.cell? p0 = some v0 ∧ W.cell? p1 = some v1 ∧ W.cell? p2 = some v2 ∧ W.cell? p3 = some v3 ∧ W.cell? p4 = some v4 ∧ W.cell? p5 = some v5 ∧ W.cell? p6 = some v6 ∧ W.cell? p7 = some v7 ∧ W.cell? p8 = some v8 ∧ W.cell? p9 = some v9 ∧ W.cell? p10 = some v10 ∧ W.cell? p11 = some v11 ∧ W.cell? p12 = some v12 ∧ W.cell? p13 = some v13 ∧ W.cell? p14 = some v14 ∧ W.cell? p15 = some v15 ∧ W.cell? p16 = some v16 ∧ W.cell? p17 = some v17 ∧ W.cell? p18 = some v18 ∧ W.cell? p19 = some v19 ∧ W.cell? p20 = some v20 ∧ W.cell? p21 = some v21 ∧ Below B w0 W ∧ B ≤ W.heap.size) :
    w'.cell? p0 = some v0 ∧ w'.cell? p1 = some v1 ∧ w'.cell? p2 = some v2 ∧ w'.cell? p3 = some v3 ∧ w'.cell? p4 = some v4 ∧ w'.cell? p5 = some v5 ∧ w'.cell? p6 = some v6 ∧ w'.cell? p7 = some v7 ∧ w'.cell? p8 = some v8 ∧ w'.cell? p9 = some v9 ∧ w'.cell? p10 = some v10 ∧ w'.cell? p11 = some v11 ∧ w'.cell? p12 = some v12 ∧ w'.cell? p13 = some v13 ∧ w'.cell? p14 = some v14 ∧ w'.cell? p15 = some v15 ∧ w'.cell? p16 = some v16 ∧ w'.cell? p17 = some v17 ∧ w'.cell? p18 = some v18 ∧ w'.cell? p19 = some v19 ∧ w'.cell? p20 = some v20 ∧ w'.cell? p21 = some v21 ∧ Below B w0 w' ∧ B ≤ w'.heap.size := by
  obtain ⟨q0, q1, q2, q3, q4, q5, q6, q7, q8, q9, q10, q11, q12, q13, q14, q15, q16, q17, q18, q19, q20, q21, h6, h7⟩ := h
  have k : ∀ {a : Addr} {v : Value}, W.cell? a = some v → w'.cell? a = some v := fun {a v} h => by rw [hb.cell (World.block_lt_of_cell? W _ h)]; exact h
  exact ⟨k q0, k q1, k q2, k q3, k q4, k q5, k q6, k q7, k q8, k q9, k q10, k q11, k q12, k q13, k q14, k q15, k q16, k q17, k q18, k q19, k q20, k q21, h6.trans (hb.mono h7), Nat.le_trans h7 hb.size⟩
set_option maxRecDepth 100000 in
set_option maxHeartbeats 3200000 in
theorem eqCondS_same (a b : Option Addr) (ca cb : Nat) (L : List C11) (w : World) (hr : RdCond w a L) (hq : RdCond w b L) (hm : L.length ≤ 2097152) :
    Calls Try.prog 66 #[.slice a L.length ca, .slice b L.length cb] w fun e w' =>
      e = .returned (.bool true) ∧ Below w.heap.size w w' := by
  obtain ⟨n, hN⟩ : ∃ n, n = L.length := ⟨_, rfl⟩
  rw [← hN] at hm ⊢
  have HN := hide hN
  clear hN
  have hnn : ((n : Int) != (n : Int)) = false := by simp
  go_enter Try.func66, Try.ntmps66
  go_wp2
  go_loopw [5] (fun i wr => ∃ (k : Nat), k ≤ n ∧ i = .int .i64 k ∧ Below w.heap.size w wr) (fun i _ => n - (intOf i).toNat)
  case atStart => exact ⟨0, Nat.zero_le _, rfl, Below.refl _ _⟩
  case round =>
    obtain ⟨k, hk, rfl, hbel⟩ := hrel
    by_cases hlt : k < n
    · obtain ⟨b1, o1, e1, hbw1, hc1⟩ := RdCond.cells hr (by rw [← HN.out]; omega)
      obtain ⟨b2, o2, e2, hbw2, hc2⟩ := RdCond.cells hq (by rw [← HN.out]; omega)
      obtain ⟨c0, c1, c2, c3, c4, c5, c6, c7, c8, c9, c10⟩ := hc1 k (by rw [← HN.out]; exact hlt)
      obtain ⟨d0, d1, d2, d3, d4, d5, d6, d7, d8, d9, d10⟩ := hc2 k (by rw [← HN.out]; exact hlt)
      clear hc1 hc2
      subst e1 e2
      rw [← hbel.cell (p := ⟨b1, o1 + k * 11, none⟩) hbw1] at c0
      rw [← hbel.cell (p := ⟨b2, o2 + k * 11, none⟩) hbw2] at d0
      rw [← hbel.cell (p := ⟨b1, o1 + k * 11 + 1, none⟩) hbw1] at c1
      rw [← hbel.cell (p := ⟨b2, o2 + k * 11 + 1, none⟩) hbw2] at d1
      rw [← hbel.cell (p := ⟨b1, o1 + k * 11 + 2, none⟩) hbw1] at c2
      rw [← hbel.cell (p := ⟨b2, o2 + k * 11 + 2, none⟩) hbw2] at d2
      rw [← hbel.cell (p := ⟨b1, o1 + k * 11 + 3, none⟩) hbw1] at c3
      rw [← hbel.cell (p := ⟨b2, o2 + k * 11 + 3, none⟩) hbw2] at d3
      rw [← hbel.cell (p := ⟨b1, o1 + k * 11 + 4, none⟩) hbw1] at c4
      rw [← hbel.cell (p := ⟨b2, o2 + k * 11 + 4, none⟩) hbw2] at d4
      rw [← hbel.cell (p := ⟨b1, o1 + k * 11 + 5, none⟩) hbw1] at c5
      rw [← hbel.cell (p := ⟨b2, o2 + k * 11 + 5, none⟩) hbw2] at d5
      rw [← hbel.cell (p := ⟨b1, o1 + k * 11 + 6, none⟩) hbw1] at c6
      rw [← hbel.cell (p := ⟨b2, o2 + k * 11 + 6, none⟩) hbw2] at d6
      rw [← hbel.cell (p := ⟨b1, o1 + k * 11 + 7, none⟩) hbw1] at c7
      rw [← hbel.cell (p := ⟨b2, o2 + k * 11 + 7, none⟩) hbw2] at d7
      rw [← hbel.cell (p := ⟨b1, o1 + k * 11 + 8, none⟩) hbw1] at c8
      rw [← hbel.cell (p := ⟨b2, o2 + k * 11 + 8, none⟩) hbw2] at d8
      rw [← hbel.cell (p := ⟨b1, o1 + k * 11 + 9, none⟩) hbw1] at c9
      rw [← hbel.cell (p := ⟨b2, o2 + k * 11 + 9, none⟩) hbw2] at d9
      rw [← hbel.cell (p := ⟨b1, o1 + k * 11 + 10, none⟩) hbw1] at c10
      rw [← hbel.cell (p := ⟨b2, o2 + k * 11 + 10, none⟩) hbw2] at d10
      generalize (eAt L k).Op = Op at c0 d0
      generalize (eAt L k).L.K = LK at c1 d1
      generalize (eAt L k).L.S = LS at c2 d2
      generalize (eAt L k).L.V.K = LVK at c3 d3
      generalize (eAt L k).L.V.N = LVN at c4 d4
      generalize (eAt L k).L.V.S = LVS at c5 d5
      generalize (eAt L k).R.K = RK at c6 d6
      generalize (eAt L k).R.S = RS at c7 d7
      generalize (eAt L k).R.V.K = RVK at c8 d8
      generalize (eAt L k).R.V.N = RVN at c9 d9
      generalize (eAt L k).R.V.S = RVS at c10 d10
      go_wp2_with fail
      go_region_held3 (fun W => W.cell? ⟨b1, o1 + k * 11, none⟩ = some (.int .i64 Op) ∧ W.cell? ⟨b1, o1 + k * 11 + 1, none⟩ = some (.int .i64 LK) ∧ W.cell? ⟨b1, o1 + k * 11 + 2, none⟩ = some (.string LS) ∧ W.cell? ⟨b1, o1 + k * 11 + 3, none⟩ = some (.int .i64 LVK) ∧ W.cell? ⟨b1, o1 + k * 11 + 4, none⟩ = some (.int .i64 LVN) ∧ W.cell? ⟨b1, o1 + k * 11 + 5, none⟩ = some (.string LVS) ∧ W.cell? ⟨b1, o1 + k * 11 + 6, none⟩ = some (.int .i64 RK) ∧ W.cell? ⟨b1, o1 + k * 11 + 7, none⟩ = some (.string RS) ∧ W.cell? ⟨b1, o1 + k * 11 + 8, none⟩ = some (.int .i64 RVK) ∧ W.cell? ⟨b1, o1 + k * 11 + 9, none⟩ = some (.int .i64 RVN) ∧ W.cell? ⟨b1, o1 + k * 11 + 10, none⟩ = some (.string RVS) ∧ W.cell? ⟨b2, o2 + k * 11, none⟩ = some (.int .i64 Op) ∧ W.cell? ⟨b2, o2 + k * 11 + 1, none⟩ = some (.int .i64 LK) ∧ W.cell? ⟨b2, o2 + k * 11 + 2, none⟩ = some (.string LS) ∧ W.cell? ⟨b2, o2 + k * 11 + 3, none⟩ = some (.int .i64 LVK) ∧ W.cell? ⟨b2, o2 + k * 11 + 4, none⟩ = some (.int .i64 LVN) ∧ W.cell? ⟨b2, o2 + k * 11 + 5, none⟩ = some (.string LVS) ∧ W.cell? ⟨b2, o2 + k * 11 + 6, none⟩ = some (.int .i64 RK) ∧ W.cell? ⟨b2, o2 + k * 11 + 7, none⟩ = some (.string RS) ∧ W.cell? ⟨b2, o2 + k * 11 + 8, none⟩ = some (.int .i64 RVK) ∧ W.cell? ⟨b2, o2 + k * 11 + 9, none⟩ = some (.int .i64 RVN) ∧ W.cell? ⟨b2, o2 + k * 11 + 10, none⟩ = some (.string RVS) ∧ Below w.heap.size w W ∧ w.heap.size ≤ W.heap.size) (first | exact ⟨c0, c1, c2, c3, c4, c5, c6, c7, c8, c9, c10, d0, d1, d2, d3, d4, d5, d6, d7, d8, d9, d10, hbel.drew, hbel.size⟩ | exact keepCond (by assumption) (by assumption))
        (first | (go_at_call 105; refine (eqCond_same _ _ _ _ _ _ _ _ _ _ _ _).mono ?_; rintro e w2 ⟨rfl, hb⟩))
      all_goals
        obtain ⟨-, -, -, -, -, -, -, -, -, -, -, -, -, -, -, -, -, -, -, -, -, -, hB2, -⟩ : w2.cell? ⟨b1, o1 + k * 11, none⟩ = some (.int .i64 Op) ∧ w2.cell? ⟨b1, o1 + k * 11 + 1, none⟩ = some (.int .i64 LK) ∧ w2.cell? ⟨b1, o1 + k * 11 + 2, none⟩ = some (.string LS) ∧ w2.cell? ⟨b1, o1 + k * 11 + 3, none⟩ = some (.int .i64 LVK) ∧ w2.cell? ⟨b1, o1 + k * 11 + 4, none⟩ = some (.int .i64 LVN) ∧ w2.cell? ⟨b1, o1 + k * 11 + 5, none⟩ = some (.string LVS) ∧ w2.cell? ⟨b1, o1 + k * 11 + 6, none⟩ = some (.int .i64 RK) ∧ w2.cell? ⟨b1, o1 + k * 11 + 7, none⟩ = some (.string RS) ∧ w2.cell? ⟨b1, o1 + k * 11 + 8, none⟩ = some (.int .i64 RVK) ∧ w2.cell? ⟨b1, o1 + k * 11 + 9, none⟩ = some (.int .i64 RVN) ∧ w2.cell? ⟨b1, o1 + k * 11 + 10, none⟩ = some (.string RVS) ∧ w2.cell? ⟨b2, o2 + k * 11, none⟩ = some (.int .i64 Op) ∧ w2.cell? ⟨b2, o2 + k * 11 + 1, none⟩ = some (.int .i64 LK) ∧ w2.cell? ⟨b2, o2 + k * 11 + 2, none⟩ = some (.string LS) ∧ w2.cell? ⟨b2, o2 + k * 11 + 3, none⟩ = some (.int .i64 LVK) ∧ w2.cell? ⟨b2, o2 + k * 11 + 4, none⟩ = some (.int .i64 LVN) ∧ w2.cell? ⟨b2, o2 + k * 11 + 5, none⟩ = some (.string LVS) ∧ w2.cell? ⟨b2, o2 + k * 11 + 6, none⟩ = some (.int .i64 RK) ∧ w2.cell? ⟨b2, o2 + k * 11 + 7, none⟩ = some (.string RS) ∧ w2.cell? ⟨b2, o2 + k * 11 + 8, none⟩ = some (.int .i64 RVK) ∧ w2.cell? ⟨b2, o2 + k * 11 + 9, none⟩ = some (.int .i64 RVN) ∧ w2.cell? ⟨b2, o2 + k * 11 + 10, none⟩ = some (.string RVS) ∧ Below w.heap.size w w2 ∧ w.heap.size ≤ w2.heap.size := by assumption
        go_wp2
        go_roundw
        case rel => exact ⟨k + 1, by omega, by go_num, hB2⟩
        case measure => simp [intOf]; omega
    · go_wp2
      go_ret
      exact ⟨rfl, hbel⟩
end Go.Proofs.Ytfgigcdfmkfkjaa
