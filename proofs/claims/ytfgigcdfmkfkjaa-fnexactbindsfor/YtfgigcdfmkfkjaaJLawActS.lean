/-
  The contracts of the laws' own helpers on rows of Acts: sz counts off, to copies, eq finds a row the same as its like.
-/
import Derived.Test.YtfgigcdfmkfkjaaJLawAct
import Derived.Test.YtfgigcdfmkfkjaaJoined3
import Derived.Deep.RegionHeld3
namespace Go.Proofs.Ytfgigcdfmkfkjaa
open Go.RowKit
set_option linter.unusedVariables false

theorem Try.info166D : (Try.prog.info? 166).map (fun i => (i.zero, i.size, i.bytes)) = some (some (.agg #[.int .i64 0, .string ⟨#[]⟩, .slice none 0 0, .int .i64 0, .string ⟨#[]⟩]), 5, 72) := by kernel_rfl

set_option maxRecDepth 100000 in
set_option maxHeartbeats 1600000 in
theorem szActS_any (a : Option Addr) (cap : Nat) (J : List QE) (left : Int) (w : World) (hr : RdActS w a J) (hs : ∀ x ∈ J, x.ok) (hm : J.length ≤ maxLen) (h0 : 0 ≤ left) (h1 : left ≤ 1048576) :
    Calls Try.prog 51 #[.slice a J.length cap, .int .i64 left] w fun e w' =>
      (∃ r, e = .returned (.int .i64 r) ∧ (r = -1 ∨ (0 ≤ r ∧ r + ((J.length + (J.map QE.sz).sum : Nat) : Int) ≤ left ∧ ∀ x ∈ J, x.small))) ∧ Below w.heap.size w w' := by
  unfold maxLen at hm
  obtain ⟨n, hN⟩ : ∃ n, n = J.length := ⟨_, rfl⟩
  rw [← hN] at hm ⊢
  have HN := hide hN
  have HS := hide hs
  clear hN hs
  by_cases h2 : left - (n : Int) < 0
  · go_enter Try.func51, Try.ntmps51
    go_wp2
    go_ret
    exact ⟨⟨-1, rfl, .inl rfl⟩, Below.refl _ _⟩
  · go_enter Try.func51, Try.ntmps51
    go_wp2
    go_loopw [1, 5] (fun l i wr => ∃ (k : Nat) (lf : Int), k ≤ n ∧ i = .int .i64 k ∧ l = .int .i64 lf ∧ 0 ≤ lf ∧ lf + (totW QE.sz J k : Int) ≤ left - n ∧ (∀ j, j < k → (eAt J j).small) ∧ Below w.heap.size w wr) (fun _ i _ => n - (intOf i).toNat)
    case atStart => exact ⟨0, left - n, Nat.zero_le _, rfl, rfl, by omega, by rw [totW_zero]; simp, fun j hj => absurd hj (Nat.not_lt_zero _), Below.refl _ _⟩
    case round =>
      obtain ⟨k, lf, hk, rfl, rfl, hlf, hsum, hsm, hbel⟩ := hrel
      have HSm := hide hsm
      clear hsm
      by_cases hlt : k < n
      · obtain ⟨b, off, hab, hbw, hc⟩ := hr.cells (by rw [← HN.out]; omega)
        obtain ⟨c0, c1, c2, c3, c4, hv⟩ := hc k (by rw [← HN.out]; exact hlt)
        have HV := hide (hv.below (hbel.mono (Nat.le_refl _)))
        clear hc hv
        subst hab
        rw [← hbel.cell (p := ⟨b, off + k * 5, none⟩) hbw] at c0
        rw [← hbel.cell (p := ⟨b, off + k * 5 + 1, none⟩) hbw] at c1
        rw [← hbel.cell (p := ⟨b, off + k * 5 + 2, none⟩) hbw] at c2
        rw [← hbel.cell (p := ⟨b, off + k * 5 + 3, none⟩) hbw] at c3
        rw [← hbel.cell (p := ⟨b, off + k * 5 + 4, none⟩) hbw] at c4
        have HK : Hid ((eAt J k).ok) := by unfold Hid; rw [eAt_in (by rw [← HN.out]; exact hlt)]; exact HS.out _ (List.getElem_mem _)
        have hst := totW_step (wt := QE.sz) (K := J) (j := k) (by rw [← HN.out]; exact hlt)
        have HSx : Hid ((eAt J k).small → ∀ j, j < k + 1 → (eAt J j).small) := fun hx j hj => by
          by_cases hjk : j = k
          · rw [hjk]; exact hx
          · exact HSm.out j (by omega)
        generalize eAt J k = x at c0 c1 c2 c3 c4 HV HK hst HSx
        obtain ⟨x0, x1, va, vc, L, x3, x4⟩ := x
        rw [show QE.sz ⟨x0, x1, va, vc, L, x3, x4⟩ = x1.size + L.length + x4.size from rfl] at hst
        simp only at c0 c1 c2 c3 c4 HV HK HSx
        unfold QE.ok at HK
        go_wp2_with fail
        refine (szAct_any x0 x1 va vc L x3 x4 lf _ HK.out.1 HK.out.2.1 HV.out HK.out.2.2.2 HK.out.2.2.1 hlf (by omega)).mono ?_
        rintro e w2 ⟨⟨r, rfl, hr1⟩, hb2⟩
        have hbel2 : Below w.heap.size w w2 := hbel.trans (hb2.mono hbel.size)
        clear hb2 c0 c1 c2 c3 c4 hbel
        rcases hr1 with rfl | ⟨hr2, hr3, hr4⟩
        · go_wp2
          go_ret
          exact ⟨⟨-1, rfl, .inl rfl⟩, hbel2⟩
        · have HR : Hid (r + (totW QE.sz J (k + 1) : Int) ≤ left - n) := by unfold Hid; rw [hst]; omega
          have HY := hide (HSx.out ⟨by show x1.size ≤ 1048576; omega, by show x4.size ≤ 1048576; omega, by show L.length ≤ 1048576; omega, hr4⟩)
          have h3 : ¬ (r < 0) := by omega
          clear hr3 hr4 hst hsum HSx
          go_wp2
          go_roundw
          case rel => exact ⟨k + 1, r, by omega, by go_num, rfl, hr2, HR.out, HY.out, hbel2⟩
          case measure => simp [intOf]; omega
      · have HK : Hid (lf + ((n + (J.map QE.sz).sum : Nat) : Int) ≤ left) := by
          unfold Hid
          have hkn : k = J.length := by rw [← HN.out]; omega
          rw [hkn, totW_end] at hsum
          omega
        have HAll : Hid (∀ x ∈ J, x.small) := fun x hx => by
          obtain ⟨j, hj, rfl⟩ := List.getElem_of_mem hx
          rw [← eAt_in hj]
          exact HSm.out j (by rw [← HN.out] at hj; omega)
        clear hsum
        go_wp2
        go_ret
        exact ⟨⟨lf, rfl, .inr ⟨hlf, HK.out, HAll.out⟩⟩, hbel⟩

set_option maxRecDepth 100000 in
set_option maxHeartbeats 3200000 in
theorem toActS_any (a : Option Addr) (cap : Nat) (J : List QE) (w : World) (hr : RdActS w a J) (hn : J.length ≤ 1048576) (hl : ∀ x ∈ J, x.L.length ≤ 1048576) :
    Calls Try.prog 57 #[.slice a J.length cap] w fun e w' =>
      ∃ K g, e = .returned (.slice (some ⟨g, 0, none⟩) J.length J.length) ∧ OwnActS w' w.heap.size w'.heap.size g J.length K K.length ∧ K.map QE.pl = J.map QE.pl ∧ Below w.heap.size w w' := by
  obtain ⟨i0, hi, hz0, hz1, hz2⟩ := info_parts Try.info166D
  obtain ⟨n, hN⟩ : ∃ n, n = J.length := ⟨_, rfl⟩
  rw [← hN] at hn ⊢
  have HN := hide hN
  have HL := hide hl
  clear hN hl
  go_enter Try.func57, Try.ntmps57
  go_wp2_with (at_make; refine wpList_make_full _ rfl _ _ 47 rfl w.heap.size 166 i0 (.agg #[.int .i64 0, .string ⟨#[]⟩, .slice none 0 0, .int .i64 0, .string ⟨#[]⟩]) 5 Try.underlying47 hi hz0 hz1 _ _ _ _ n rfl rfl (by omega) (by omega) ?b2 ?b3 (Nat.le_refl _) ?_)
  case b2 => rw [hz2]; omega
  case b3 => unfold maxLen; omega
  intro w0 hown0 hgrow0
  have hmd : (madeCells #[.int .i64 0, .string ⟨#[]⟩, .slice none 0 0, .int .i64 0, .string ⟨#[]⟩] (n * 5)).toList = rowOf QE.cs (List.replicate n QE.zero) := rowOf_made (x := QE.zero) (cs := #[.int .i64 0, .string ⟨#[]⟩, .slice none 0 0, .int .i64 0, .string ⟨#[]⟩]) rfl (by decide) n
  rw [hmd] at hown0
  clear hmd
  have hs0 : w.heap.size < w0.heap.size := (hown0.lt w.heap.size rfl).2
  have hb0 : Below w.heap.size w w0 := (Below.refl _ _).grown hgrow0 (Nat.le_refl _) (fun k h => by cases h)
  have hO0 : OwnActS w0 w.heap.size w0.heap.size w.heap.size n (List.replicate n QE.zero) 0 := OwnD.zero (OwnK.of QE.len (by decide) hown0) (Nat.le_refl _) (Nat.le_refl _) hs0
  clear hown0 hgrow0
  go_wp2
  go_loopw [4] (fun i wr => ∃ (k : Nat) (K : List QE), k ≤ n ∧ i = .int .i64 k ∧ K.length = n ∧ OwnActS wr w.heap.size wr.heap.size w.heap.size n K k ∧ (∀ i, i < k → (eAt K i).pl = (eAt J i).pl) ∧ Below w.heap.size w wr)
    (fun i _ => n - (intOf i).toNat)
  case atStart => exact ⟨0, List.replicate n QE.zero, Nat.zero_le _, rfl, by simp, hO0, fun i hi => absurd hi (Nat.not_lt_zero _), hb0⟩
  case round =>
    clear hO0 hb0 hs0
    obtain ⟨k, K, hk, rfl, hKn, hO, hpl, hbel⟩ := hrel
    have HKn := hide hKn
    have HPl := hide hpl
    have HO := hide hO
    clear hKn hpl hO
    by_cases hlt : k < n
    · obtain ⟨b, off, hab, hbw, hc⟩ := hr.cells (by rw [← HN.out]; omega)
      obtain ⟨c0, c1, c2, c3, c4, hv⟩ := hc k (by rw [← HN.out]; exact hlt)
      have HV := hide (hv.below hbel)
      clear hc hv
      subst hab
      rw [← hbel.cell (p := ⟨b, off + k * 5, none⟩) hbw] at c0
      rw [← hbel.cell (p := ⟨b, off + k * 5 + 1, none⟩) hbw] at c1
      rw [← hbel.cell (p := ⟨b, off + k * 5 + 2, none⟩) hbw] at c2
      rw [← hbel.cell (p := ⟨b, off + k * 5 + 3, none⟩) hbw] at c3
      rw [← hbel.cell (p := ⟨b, off + k * 5 + 4, none⟩) hbw] at c4
      have HK : Hid ((eAt J k).L.length ≤ 1048576) := by unfold Hid; rw [eAt_in (by rw [← HN.out]; exact hlt)]; exact HL.out _ (List.getElem_mem _)
      obtain ⟨x, hx⟩ : ∃ x, x = eAt J k := ⟨_, rfl⟩
      rw [← hx] at c0 c1 c2 c3 c4 HV HK
      have HX := hide hx
      clear hx
      obtain ⟨x0, x1, va, vc, L, x3, x4⟩ := x
      simp only at c0 c1 c2 c3 c4 HV HK
      go_wp2_with fail
      refine (toAct_any x0 x1 va vc L x3 x4 _ HV.out HK.out).mono ?_
      rintro e w2 ⟨g, rfl, hg, o, hb2⟩
      have hown2 : w2.ownsRow 0 166 5 (.slice (some ⟨w.heap.size, 0, none⟩) n n) n (rowOf QE.cs K) := by
        have := ownsRow_below' HO.out.own hb2
        rw [HKn.out] at this; exact this
      have hbel2 : Below w.heap.size w w2 := hbel.trans (hb2.mono hbel.size)
      have hlen : (rowOf QE.cs K).length = n * 5 := by rw [rowOf_length QE.len, HKn.out]
      have hmem : ∀ j, j < 5 → ∃ u, w2.cell? ⟨w.heap.size, k * 5 + j, none⟩ = some u := fun j hj => by
        rw [hown2.cellAt (k * 5 + j) (by omega), List.getElem?_eq_getElem (by omega)]
        exact ⟨_, rfl⟩
      obtain ⟨u0, m0⟩ := hmem 0 (by omega)
      obtain ⟨u1, m1⟩ := hmem 1 (by omega)
      obtain ⟨u2, m2⟩ := hmem 2 (by omega)
      obtain ⟨u3, m3⟩ := hmem 3 (by omega)
      obtain ⟨u4, m4⟩ := hmem 4 (by omega)
      rw [Nat.add_zero] at m0
      have f0 := hown2.frozenAt (k * 5)
      have f1 := hown2.frozenAt (k * 5 + 1)
      have f2 := hown2.frozenAt (k * 5 + 2)
      have f3 := hown2.frozenAt (k * 5 + 3)
      have f4 := hown2.frozenAt (k * 5 + 4)
      have s0 := hown2.stored (k * 5) (.int .i64 x0)
      have s1 := s0.1.stored (k * 5 + 1) (.string x1)
      have s2 := s1.1.stored (k * 5 + 2) (.slice (some ⟨g, 0, none⟩) L.length L.length)
      have s3 := s2.1.stored (k * 5 + 3) (.int .i64 x3)
      have s4 := s3.1.stored (k * 5 + 4) (.string x4)
      have hset := rowOf_set_QE ⟨x0, x1, some ⟨g, 0, none⟩, L.length, L, x3, x4⟩ K k (by rw [HKn.out]; exact hlt)
      have hgr := (grown_tt (grown_tt (grown_tt (grown_tt s0.2 s1.2) s2.2) s3.2) s4.2)
      have hown3 := s4.1
      simp only at hset
      rw [hset] at hown3
      have hO3 : OwnK 166 QE.cs 5 (((((w2.setCell ⟨w.heap.size, k * 5, none⟩ (.int .i64 x0)).setCell ⟨w.heap.size, k * 5 + 1, none⟩ (.string x1)).setCell ⟨w.heap.size, k * 5 + 2, none⟩ (.slice (some ⟨g, 0, none⟩) L.length L.length)).setCell ⟨w.heap.size, k * 5 + 3, none⟩ (.int .i64 x3)).setCell ⟨w.heap.size, k * 5 + 4, none⟩ (.string x4)) w.heap.size n (K.set k ⟨x0, x1, some ⟨g, 0, none⟩, L.length, L, x3, x4⟩) := OwnK.of QE.len (by decide) hown3
      have HC := hide (HO.out.step innAct (by rw [HKn.out]; exact hlt) hb2 (x := ⟨x0, x1, some ⟨g, 0, none⟩, L.length, L, x3, x4⟩) ⟨g, rfl, hg, o.lt, o⟩ hgr hO3)
      have HB := hide (below_set hbel2 hgr (Nat.le_refl _))
      have hsz3 : w2.heap.size ≤ (((((w2.setCell ⟨w.heap.size, k * 5, none⟩ (.int .i64 x0)).setCell ⟨w.heap.size, k * 5 + 1, none⟩ (.string x1)).setCell ⟨w.heap.size, k * 5 + 2, none⟩ (.slice (some ⟨g, 0, none⟩) L.length L.length)).setCell ⟨w.heap.size, k * 5 + 3, none⟩ (.int .i64 x3)).setCell ⟨w.heap.size, k * 5 + 4, none⟩ (.string x4)).heap.size := hgr.size
      have HLen : Hid ((K.set k ⟨x0, x1, some ⟨g, 0, none⟩, L.length, L, x3, x4⟩).length = n) := by unfold Hid; rw [List.length_set, HKn.out]
      have HPl2 : Hid (∀ i, i < k + 1 → (eAt (K.set k ⟨x0, x1, some ⟨g, 0, none⟩, L.length, L, x3, x4⟩) i).pl = (eAt J i).pl) := fun i hi => by
        rw [eAt_set (by rw [HKn.out]; exact hlt)]
        by_cases e : i = k
        · rw [if_pos e, e, ← HX.out]; rfl
        · rw [if_neg e]; exact HPl.out i (by omega)
      have HW := hide (HC.out.weaken (Nat.le_refl _) hsz3 (Nat.le_refl _))
      clear hmem hlen c0 c1 c2 c3 c4 hbel hb2 s0 s1 s2 s3 s4 hset hown2 hbel2 o HV HK HPl HO hO3 hown3 hgr HC hsz3
      go_wp2
      go_roundw
      case rel => exact ⟨k + 1, _, by omega, by go_num, HLen.out, HW.out, HPl2.out, HB.out⟩
      case measure => simp [intOf]; omega
    · have hkn : k = K.length := by rw [HKn.out]; omega
      have HR : Hid (OwnActS wr w.heap.size wr.heap.size w.heap.size n K K.length ∧ K.map QE.pl = J.map QE.pl) :=
        ⟨hkn ▸ HO.out, map_ext (by rw [HKn.out, HN.out]) (fun i hi => HPl.out i (by rw [hkn]; exact hi))⟩
      clear hkn
      go_wp2
      go_ret
      exact ⟨K, _, rfl, HR.out.1, HR.out.2, hbel⟩

/-- cells in memory, two lists, and all that was there at the head -/
theorem keepAct {w0 W w' : World} {p0 p1 p2 p3 p4 p5 p6 p7 p8 p9 : Addr} {v0 v1 v2 v3 v4 v5 v6 v7 v8 v9 : Value} {a b : Option Addr} {L : List X11} (hb : Below W.heap.size W w')
    (h : W.cell? p0 = some v0 ∧ W.cell? p1 = some v1 ∧ W.cell? p2 = some v2 ∧ W.cell? p3 = some v3 ∧ W.cell? p4 = some v4 ∧ W.cell? p5 = some v5 ∧ W.cell? p6 = some v6 ∧ W.cell? p7 = some v7 ∧ W.cell? p8 = some v8 ∧ W.cell? p9 = some v9 ∧ (RdExpr W a L ∧ RdExpr W b L ∧ Below w0.heap.size w0 W ∧ w0.heap.size ≤ W.heap.size)) :
    w'.cell? p0 = some v0 ∧ w'.cell? p1 = some v1 ∧ w'.cell? p2 = some v2 ∧ w'.cell? p3 = some v3 ∧ w'.cell? p4 = some v4 ∧ w'.cell? p5 = some v5 ∧ w'.cell? p6 = some v6 ∧ w'.cell? p7 = some v7 ∧ w'.cell? p8 = some v8 ∧ w'.cell? p9 = some v9 ∧ (RdExpr w' a L ∧ RdExpr w' b L ∧ Below w0.heap.size w0 w' ∧ w0.heap.size ≤ w'.heap.size) := by
  obtain ⟨g0, g1, g2, g3, g4, g5, g6, g7, g8, g9, q1, q2, q3, q4⟩ := h
  have k : ∀ {a : Addr} {v : Value}, W.cell? a = some v → w'.cell? a = some v := fun {a v} h => by rw [hb.cell (World.block_lt_of_cell? W _ h)]; exact h
  exact ⟨k g0, k g1, k g2, k g3, k g4, k g5, k g6, k g7, k g8, k g9, q1.below hb, q2.below hb, q3.trans (hb.mono q4), Nat.le_trans q4 hb.size⟩

set_option maxRecDepth 100000 in
set_option maxHeartbeats 3200000 in
theorem eqActS_same (a b : Option Addr) (ca cb n : Nat) (J K : List QE) (w : World) (hr : RdActS w a J) (hq : RdActS w b K) (hJ : J.length = n) (hpl : J.map QE.pl = K.map QE.pl) (hm : n ≤ 1048580) (hl : ∀ x ∈ J, x.L.length ≤ 1048576) :
    Calls Try.prog 67 #[.slice a n ca, .slice b n cb] w fun e w' =>
      e = .returned (.bool true) ∧ Below w.heap.size w w' := by
  have HJ := hide hJ
  have HK : Hid (K.length = n) := by unfold Hid; rw [← hJ, map_len hpl]
  have HP := hide hpl
  have HL := hide hl
  clear hJ hpl hl
  have hnn : ((n : Int) != (n : Int)) = false := by simp
  go_enter Try.func67, Try.ntmps67
  go_wp2
  go_loopw [5] (fun i wr => ∃ (k : Nat), k ≤ n ∧ i = .int .i64 k ∧ Below w.heap.size w wr) (fun i _ => n - (intOf i).toNat)
  case atStart => exact ⟨0, Nat.zero_le _, rfl, Below.refl _ _⟩
  case round =>
    obtain ⟨k, hk, rfl, hbel⟩ := hrel
    by_cases hlt : k < n
    · obtain ⟨b1, o1, e1, hbw1, hc1⟩ := hr.cells (by rw [HJ.out]; omega)
      obtain ⟨b2, o2, e2, hbw2, hc2⟩ := hq.cells (by rw [HK.out]; omega)
      obtain ⟨c0, c1, c2, c3, c4, hv1⟩ := hc1 k (by rw [HJ.out]; exact hlt)
      obtain ⟨d0, d1, d2, d3, d4, hv2⟩ := hc2 k (by rw [HK.out]; exact hlt)
      have HP1 := QE.pl_inj (map_at HP.out (i := k) (by rw [HJ.out]; exact hlt))
      have HLk : Hid ((eAt J k).L.length ≤ 1048576) := by unfold Hid; rw [eAt_in (by rw [HJ.out]; exact hlt)]; exact HL.out _ (List.getElem_mem _)
      replace hv1 := hv1.below hbel
      replace hv2 := hv2.below hbel
      clear hc1 hc2
      subst e1 e2
      rw [← hbel.cell (p := ⟨b1, o1 + k * 5, none⟩) hbw1] at c0
      rw [← hbel.cell (p := ⟨b1, o1 + k * 5 + 1, none⟩) hbw1] at c1
      rw [← hbel.cell (p := ⟨b1, o1 + k * 5 + 2, none⟩) hbw1] at c2
      rw [← hbel.cell (p := ⟨b1, o1 + k * 5 + 3, none⟩) hbw1] at c3
      rw [← hbel.cell (p := ⟨b1, o1 + k * 5 + 4, none⟩) hbw1] at c4
      rw [← hbel.cell (p := ⟨b2, o2 + k * 5, none⟩) hbw2] at d0
      rw [← hbel.cell (p := ⟨b2, o2 + k * 5 + 1, none⟩) hbw2] at d1
      rw [← hbel.cell (p := ⟨b2, o2 + k * 5 + 2, none⟩) hbw2] at d2
      rw [← hbel.cell (p := ⟨b2, o2 + k * 5 + 3, none⟩) hbw2] at d3
      rw [← hbel.cell (p := ⟨b2, o2 + k * 5 + 4, none⟩) hbw2] at d4
      generalize eAt J k = x at c0 c1 c2 c3 c4 hv1 HP1 HLk
      generalize eAt K k = y at d0 d1 d2 d3 d4 hv2 HP1
      obtain ⟨x0, x1, va, vc, L, x3, x4⟩ := x
      obtain ⟨y0, y1, vb, wc, M, y3, y4⟩ := y
      simp only at c0 c1 c2 c3 c4 hv1 d0 d1 d2 d3 d4 hv2 HP1 HLk
      obtain ⟨rfl, rfl, rfl, rfl, rfl⟩ := HP1
      have T0 : RdExpr wr va L ∧ RdExpr wr vb L ∧ Below w.heap.size w wr ∧ w.heap.size ≤ wr.heap.size := ⟨hv1, hv2, hbel, hbel.size⟩
      have T1 : RdExpr wr.drew va L := T0.1.heap rfl
      have T2 : RdExpr wr.drew vb L := T0.2.1.heap rfl
      clear hv1 hv2 hbel
      go_wp2_with fail
      go_region_held3 (fun W => W.cell? ⟨b1, o1 + k * 5, none⟩ = some (.int .i64 x0) ∧ W.cell? ⟨b1, o1 + k * 5 + 1, none⟩ = some (.string x1) ∧ W.cell? ⟨b1, o1 + k * 5 + 2, none⟩ = some (.slice va L.length vc) ∧ W.cell? ⟨b1, o1 + k * 5 + 3, none⟩ = some (.int .i64 x3) ∧ W.cell? ⟨b1, o1 + k * 5 + 4, none⟩ = some (.string x4) ∧ W.cell? ⟨b2, o2 + k * 5, none⟩ = some (.int .i64 x0) ∧ W.cell? ⟨b2, o2 + k * 5 + 1, none⟩ = some (.string x1) ∧ W.cell? ⟨b2, o2 + k * 5 + 2, none⟩ = some (.slice vb L.length wc) ∧ W.cell? ⟨b2, o2 + k * 5 + 3, none⟩ = some (.int .i64 x3) ∧ W.cell? ⟨b2, o2 + k * 5 + 4, none⟩ = some (.string x4) ∧ (RdExpr W va L ∧ RdExpr W vb L ∧ Below w.heap.size w W ∧ w.heap.size ≤ W.heap.size)) (first | exact ⟨c0, c1, c2, c3, c4, d0, d1, d2, d3, d4, T0.1.heap rfl, T0.2.1.heap rfl, T0.2.2.1.drew, T0.2.2.2⟩ | exact keepAct (by assumption) (by assumption))
        (first | (go_at_call 106; refine (eqAct_same _ _ _ _ _ _ _ _ _ _ T1 T2 (by have := HLk.out; omega)).mono ?_; rintro e w2 ⟨rfl, hb⟩))
      all_goals
        obtain ⟨-, -, -, -, -, -, -, -, -, -, -, -, hB2, -⟩ : w2.cell? ⟨b1, o1 + k * 5, none⟩ = some (.int .i64 x0) ∧ w2.cell? ⟨b1, o1 + k * 5 + 1, none⟩ = some (.string x1) ∧ w2.cell? ⟨b1, o1 + k * 5 + 2, none⟩ = some (.slice va L.length vc) ∧ w2.cell? ⟨b1, o1 + k * 5 + 3, none⟩ = some (.int .i64 x3) ∧ w2.cell? ⟨b1, o1 + k * 5 + 4, none⟩ = some (.string x4) ∧ w2.cell? ⟨b2, o2 + k * 5, none⟩ = some (.int .i64 x0) ∧ w2.cell? ⟨b2, o2 + k * 5 + 1, none⟩ = some (.string x1) ∧ w2.cell? ⟨b2, o2 + k * 5 + 2, none⟩ = some (.slice vb L.length wc) ∧ w2.cell? ⟨b2, o2 + k * 5 + 3, none⟩ = some (.int .i64 x3) ∧ w2.cell? ⟨b2, o2 + k * 5 + 4, none⟩ = some (.string x4) ∧ (RdExpr w2 va L ∧ RdExpr w2 vb L ∧ Below w.heap.size w w2 ∧ w.heap.size ≤ w2.heap.size) := by assumption
        go_wp2
        go_roundw
        case rel => exact ⟨k + 1, by omega, by go_num, hB2⟩
        case measure => simp [intOf]; omega
    · go_wp2
      go_ret
      exact ⟨rfl, hbel⟩
end Go.Proofs.Ytfgigcdfmkfkjaa
