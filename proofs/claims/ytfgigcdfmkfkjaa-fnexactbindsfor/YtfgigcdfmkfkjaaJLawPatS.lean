/-
  The contracts of the laws' own helpers on rows of Pats: sz counts off, to copies, eq finds a row the same as its like.
-/
import Derived.Test.YtfgigcdfmkfkjaaJLawPat
import Derived.Test.YtfgigcdfmkfkjaaJoined1
import Derived.Deep.RegionHeld3
namespace Go.Proofs.Ytfgigcdfmkfkjaa
open Go.RowKit
set_option linter.unusedVariables false

theorem Try.info79D : (Try.prog.info? 79).map (fun i => (i.zero, i.size, i.bytes)) = some (some (.agg #[.string ⟨#[]⟩, .slice none 0 0, .bool false]), 3, 48) := by kernel_rfl

set_option maxRecDepth 100000 in
set_option maxHeartbeats 1600000 in
theorem szPatS_any (a : Option Addr) (cap : Nat) (J : List PE) (left : Int) (w : World) (hr : RdPatS w a J) (hs : ∀ x ∈ J, x.ok) (hm : J.length ≤ maxLen) (h0 : 0 ≤ left) (h1 : left ≤ 1048576) :
    Calls Try.prog 49 #[.slice a J.length cap, .int .i64 left] w fun e w' =>
      (∃ r, e = .returned (.int .i64 r) ∧ (r = -1 ∨ (0 ≤ r ∧ r + ((J.length + (J.map PE.sz).sum : Nat) : Int) ≤ left ∧ ∀ x ∈ J, x.small))) ∧ Below w.heap.size w w' := by
  unfold maxLen at hm
  obtain ⟨n, hN⟩ : ∃ n, n = J.length := ⟨_, rfl⟩
  rw [← hN] at hm ⊢
  have HN := hide hN
  have HS := hide hs
  clear hN hs
  by_cases h2 : left - (n : Int) < 0
  · go_enter Try.func49, Try.ntmps49
    go_wp2
    go_ret
    exact ⟨⟨-1, rfl, .inl rfl⟩, Below.refl _ _⟩
  · go_enter Try.func49, Try.ntmps49
    go_wp2
    go_loopw [1, 5] (fun l i wr => ∃ (k : Nat) (lf : Int), k ≤ n ∧ i = .int .i64 k ∧ l = .int .i64 lf ∧ 0 ≤ lf ∧ lf + (totW PE.sz J k : Int) ≤ left - n ∧ (∀ j, j < k → (eAt J j).small) ∧ Below w.heap.size w wr) (fun _ i _ => n - (intOf i).toNat)
    case atStart => exact ⟨0, left - n, Nat.zero_le _, rfl, rfl, by omega, by rw [totW_zero]; simp, fun j hj => absurd hj (Nat.not_lt_zero _), Below.refl _ _⟩
    case round =>
      obtain ⟨k, lf, hk, rfl, rfl, hlf, hsum, hsm, hbel⟩ := hrel
      have HSm := hide hsm
      clear hsm
      by_cases hlt : k < n
      · obtain ⟨b, off, hab, hbw, hc⟩ := hr.cells (by rw [← HN.out]; omega)
        obtain ⟨c0, c1, c2, hv⟩ := hc k (by rw [← HN.out]; exact hlt)
        have HV := hide (hv.below (hbel.mono (Nat.le_refl _)))
        clear hc hv
        subst hab
        rw [← hbel.cell (p := ⟨b, off + k * 3, none⟩) hbw] at c0
        rw [← hbel.cell (p := ⟨b, off + k * 3 + 1, none⟩) hbw] at c1
        rw [← hbel.cell (p := ⟨b, off + k * 3 + 2, none⟩) hbw] at c2
        have HK : Hid ((eAt J k).ok) := by unfold Hid; rw [eAt_in (by rw [← HN.out]; exact hlt)]; exact HS.out _ (List.getElem_mem _)
        have hst := totW_step (wt := PE.sz) (K := J) (j := k) (by rw [← HN.out]; exact hlt)
        have HSx : Hid ((eAt J k).small → ∀ j, j < k + 1 → (eAt J j).small) := fun hx j hj => by
          by_cases hjk : j = k
          · rw [hjk]; exact hx
          · exact HSm.out j (by omega)
        generalize eAt J k = x at c0 c1 c2 HV HK hst HSx
        obtain ⟨x0, va, vc, L, x2⟩ := x
        rw [show PE.sz ⟨x0, va, vc, L, x2⟩ = x0.size + L.length from rfl] at hst
        simp only at c0 c1 c2 HV HK HSx
        unfold PE.ok at HK
        go_wp2_with fail
        refine (szPat_any x0 va vc L x2 lf _ HK.out.1 HV.out HK.out.2.2 HK.out.2.1 hlf (by omega)).mono ?_
        rintro e w2 ⟨⟨r, rfl, hr1⟩, hb2⟩
        have hbel2 : Below w.heap.size w w2 := hbel.trans (hb2.mono hbel.size)
        clear hb2 c0 c1 c2 hbel
        rcases hr1 with rfl | ⟨hr2, hr3, hr4⟩
        · go_wp2
          go_ret
          exact ⟨⟨-1, rfl, .inl rfl⟩, hbel2⟩
        · have HR : Hid (r + (totW PE.sz J (k + 1) : Int) ≤ left - n) := by unfold Hid; rw [hst]; omega
          have HY := hide (HSx.out ⟨by show x0.size ≤ 1048576; omega, by show L.length ≤ 1048576; omega, hr4⟩)
          have h3 : ¬ (r < 0) := by omega
          clear hr3 hr4 hst hsum HSx
          go_wp2
          go_roundw
          case rel => exact ⟨k + 1, r, by omega, by go_num, rfl, hr2, HR.out, HY.out, hbel2⟩
          case measure => simp [intOf]; omega
      · have HK : Hid (lf + ((n + (J.map PE.sz).sum : Nat) : Int) ≤ left) := by
          unfold Hid
          have hkn : k = J.length := by rw [← HN.out]; omega
          rw [hkn, totW_end] at hsum
          omega
        have HAll : Hid (∀ x ∈ J, x.small) := fun x hx => by
          obtain ⟨j, hj, rfl⟩ := List.getElem_of_mem hx
          rw [← eAt_in hj]
          exact HSm.out j (by rw [← HN.out] at hj; omega)
        clear hsum
        go_wp2
        go_ret
        exact ⟨⟨lf, rfl, .inr ⟨hlf, HK.out, HAll.out⟩⟩, hbel⟩

set_option maxRecDepth 100000 in
set_option maxHeartbeats 3200000 in
theorem toPatS_any (a : Option Addr) (cap : Nat) (J : List PE) (w : World) (hr : RdPatS w a J) (hn : J.length ≤ 1048576) (hl : ∀ x ∈ J, x.L.length ≤ 1048576) :
    Calls Try.prog 55 #[.slice a J.length cap] w fun e w' =>
      ∃ K g, e = .returned (.slice (some ⟨g, 0, none⟩) J.length J.length) ∧ OwnPatS w' w.heap.size w'.heap.size g J.length K K.length ∧ K.map PE.pl = J.map PE.pl ∧ Below w.heap.size w w' := by
  obtain ⟨i0, hi, hz0, hz1, hz2⟩ := info_parts Try.info79D
  obtain ⟨n, hN⟩ : ∃ n, n = J.length := ⟨_, rfl⟩
  rw [← hN] at hn ⊢
  have HN := hide hN
  have HL := hide hl
  clear hN hl
  go_enter Try.func55, Try.ntmps55
  go_wp2_with (at_make; refine wpList_make_full _ rfl _ _ 45 rfl w.heap.size 79 i0 (.agg #[.string ⟨#[]⟩, .slice none 0 0, .bool false]) 3 Try.underlying45 hi hz0 hz1 _ _ _ _ n rfl rfl (by omega) (by omega) ?b2 ?b3 (Nat.le_refl _) ?_)
  case b2 => rw [hz2]; omega
  case b3 => unfold maxLen; omega
  intro w0 hown0 hgrow0
  have hmd : (madeCells #[.string ⟨#[]⟩, .slice none 0 0, .bool false] (n * 3)).toList = rowOf PE.cs (List.replicate n PE.zero) := rowOf_made (x := PE.zero) (cs := #[.string ⟨#[]⟩, .slice none 0 0, .bool false]) rfl (by decide) n
  rw [hmd] at hown0
  clear hmd
  have hs0 : w.heap.size < w0.heap.size := (hown0.lt w.heap.size rfl).2
  have hb0 : Below w.heap.size w w0 := (Below.refl _ _).grown hgrow0 (Nat.le_refl _) (fun k h => by cases h)
  have hO0 : OwnPatS w0 w.heap.size w0.heap.size w.heap.size n (List.replicate n PE.zero) 0 := OwnD.zero (OwnK.of PE.len (by decide) hown0) (Nat.le_refl _) (Nat.le_refl _) hs0
  clear hown0 hgrow0
  go_wp2
  go_loopw [4] (fun i wr => ∃ (k : Nat) (K : List PE), k ≤ n ∧ i = .int .i64 k ∧ K.length = n ∧ OwnPatS wr w.heap.size wr.heap.size w.heap.size n K k ∧ (∀ i, i < k → (eAt K i).pl = (eAt J i).pl) ∧ Below w.heap.size w wr)
    (fun i _ => n - (intOf i).toNat)
  case atStart => exact ⟨0, List.replicate n PE.zero, Nat.zero_le _, rfl, by simp, hO0, fun i hi => absurd hi (Nat.not_lt_zero _), hb0⟩
  case round =>
    clear hO0 hb0 hs0
    obtain ⟨k, K, hk, rfl, hKn, hO, hpl, hbel⟩ := hrel
    have HKn := hide hKn
    have HPl := hide hpl
    have HO := hide hO
    clear hKn hpl hO
    by_cases hlt : k < n
    · obtain ⟨b, off, hab, hbw, hc⟩ := hr.cells (by rw [← HN.out]; omega)
      obtain ⟨c0, c1, c2, hv⟩ := hc k (by rw [← HN.out]; exact hlt)
      have HV := hide (hv.below hbel)
      clear hc hv
      subst hab
      rw [← hbel.cell (p := ⟨b, off + k * 3, none⟩) hbw] at c0
      rw [← hbel.cell (p := ⟨b, off + k * 3 + 1, none⟩) hbw] at c1
      rw [← hbel.cell (p := ⟨b, off + k * 3 + 2, none⟩) hbw] at c2
      have HK : Hid ((eAt J k).L.length ≤ 1048576) := by unfold Hid; rw [eAt_in (by rw [← HN.out]; exact hlt)]; exact HL.out _ (List.getElem_mem _)
      obtain ⟨x, hx⟩ : ∃ x, x = eAt J k := ⟨_, rfl⟩
      rw [← hx] at c0 c1 c2 HV HK
      have HX := hide hx
      clear hx
      obtain ⟨x0, va, vc, L, x2⟩ := x
      simp only at c0 c1 c2 HV HK
      go_wp2_with fail
      refine (toPat_any x0 va vc L x2 _ HV.out HK.out).mono ?_
      rintro e w2 ⟨g, rfl, hg, o, hb2⟩
      have hown2 : w2.ownsRow 0 79 3 (.slice (some ⟨w.heap.size, 0, none⟩) n n) n (rowOf PE.cs K) := by
        have := ownsRow_below' HO.out.own hb2
        rw [HKn.out] at this; exact this
      have hbel2 : Below w.heap.size w w2 := hbel.trans (hb2.mono hbel.size)
      have hlen : (rowOf PE.cs K).length = n * 3 := by rw [rowOf_length PE.len, HKn.out]
      have hmem : ∀ j, j < 3 → ∃ u, w2.cell? ⟨w.heap.size, k * 3 + j, none⟩ = some u := fun j hj => by
        rw [hown2.cellAt (k * 3 + j) (by omega), List.getElem?_eq_getElem (by omega)]
        exact ⟨_, rfl⟩
      obtain ⟨u0, m0⟩ := hmem 0 (by omega)
      obtain ⟨u1, m1⟩ := hmem 1 (by omega)
      obtain ⟨u2, m2⟩ := hmem 2 (by omega)
      rw [Nat.add_zero] at m0
      have f0 := hown2.frozenAt (k * 3)
      have f1 := hown2.frozenAt (k * 3 + 1)
      have f2 := hown2.frozenAt (k * 3 + 2)
      have s0 := hown2.stored (k * 3) (.string x0)
      have s1 := s0.1.stored (k * 3 + 1) (.slice (some ⟨g, 0, none⟩) L.length L.length)
      have s2 := s1.1.stored (k * 3 + 2) (.bool x2)
      have hset := rowOf_set_PE ⟨x0, some ⟨g, 0, none⟩, L.length, L, x2⟩ K k (by rw [HKn.out]; exact hlt)
      have hgr := (grown_tt (grown_tt s0.2 s1.2) s2.2)
      have hown3 := s2.1
      simp only at hset
      rw [hset] at hown3
      have hO3 : OwnK 79 PE.cs 3 (((w2.setCell ⟨w.heap.size, k * 3, none⟩ (.string x0)).setCell ⟨w.heap.size, k * 3 + 1, none⟩ (.slice (some ⟨g, 0, none⟩) L.length L.length)).setCell ⟨w.heap.size, k * 3 + 2, none⟩ (.bool x2)) w.heap.size n (K.set k ⟨x0, some ⟨g, 0, none⟩, L.length, L, x2⟩) := OwnK.of PE.len (by decide) hown3
      have HC := hide (HO.out.step innPat (by rw [HKn.out]; exact hlt) hb2 (x := ⟨x0, some ⟨g, 0, none⟩, L.length, L, x2⟩) ⟨g, rfl, hg, o.lt, o⟩ hgr hO3)
      have HB := hide (below_set hbel2 hgr (Nat.le_refl _))
      have hsz3 : w2.heap.size ≤ (((w2.setCell ⟨w.heap.size, k * 3, none⟩ (.string x0)).setCell ⟨w.heap.size, k * 3 + 1, none⟩ (.slice (some ⟨g, 0, none⟩) L.length L.length)).setCell ⟨w.heap.size, k * 3 + 2, none⟩ (.bool x2)).heap.size := hgr.size
      have HLen : Hid ((K.set k ⟨x0, some ⟨g, 0, none⟩, L.length, L, x2⟩).length = n) := by unfold Hid; rw [List.length_set, HKn.out]
      have HPl2 : Hid (∀ i, i < k + 1 → (eAt (K.set k ⟨x0, some ⟨g, 0, none⟩, L.length, L, x2⟩) i).pl = (eAt J i).pl) := fun i hi => by
        rw [eAt_set (by rw [HKn.out]; exact hlt)]
        by_cases e : i = k
        · rw [if_pos e, e, ← HX.out]; rfl
        · rw [if_neg e]; exact HPl.out i (by omega)
      have HW := hide (HC.out.weaken (Nat.le_refl _) hsz3 (Nat.le_refl _))
      clear hmem hlen c0 c1 c2 hbel hb2 s0 s1 s2 hset hown2 hbel2 o HV HK HPl HO hO3 hown3 hgr HC hsz3
      go_wp2
      go_roundw
      case rel => exact ⟨k + 1, _, by omega, by go_num, HLen.out, HW.out, HPl2.out, HB.out⟩
      case measure => simp [intOf]; omega
    · have hkn : k = K.length := by rw [HKn.out]; omega
      have HR : Hid (OwnPatS wr w.heap.size wr.heap.size w.heap.size n K K.length ∧ K.map PE.pl = J.map PE.pl) :=
        ⟨hkn ▸ HO.out, map_ext (by rw [HKn.out, HN.out]) (fun i hi => HPl.out i (by rw [hkn]; exact hi))⟩
      clear hkn
      go_wp2
      go_ret
      exact ⟨K, _, rfl, HR.out.1, HR.out.2, hbel⟩

/-- cells in memory, two lists, and all that was there at the head -/
theorem keepPat {w0 W w' : World} {p0 p1 p2 p3 p4 p5 : Addr} {v0 v1 v2 v3 v4 v5 : Value} {a b : Option Addr} {L : List A5} (hb : Below W.heap.size W w')
    (h : W.cell? p0 = some v0 ∧ W.cell? p1 = some v1 ∧ W.cell? p2 = some v2 ∧ W.cell? p3 = some v3 ∧ W.cell? p4 = some v4 ∧ W.cell? p5 = some v5 ∧ (RdArg W a L ∧ RdArg W b L ∧ Below w0.heap.size w0 W ∧ w0.heap.size ≤ W.heap.size)) :
    w'.cell? p0 = some v0 ∧ w'.cell? p1 = some v1 ∧ w'.cell? p2 = some v2 ∧ w'.cell? p3 = some v3 ∧ w'.cell? p4 = some v4 ∧ w'.cell? p5 = some v5 ∧ (RdArg w' a L ∧ RdArg w' b L ∧ Below w0.heap.size w0 w' ∧ w0.heap.size ≤ w'.heap.size) := by
  obtain ⟨g0, g1, g2, g3, g4, g5, q1, q2, q3, q4⟩ := h
  have k : ∀ {a : Addr} {v : Value}, W.cell? a = some v → w'.cell? a = some v := fun {a v} h => by rw [hb.cell (World.block_lt_of_cell? W _ h)]; exact h
  exact ⟨k g0, k g1, k g2, k g3, k g4, k g5, q1.below hb, q2.below hb, q3.trans (hb.mono q4), Nat.le_trans q4 hb.size⟩

set_option maxRecDepth 100000 in
set_option maxHeartbeats 3200000 in
theorem eqPatS_same (a b : Option Addr) (ca cb n : Nat) (J K : List PE) (w : World) (hr : RdPatS w a J) (hq : RdPatS w b K) (hJ : J.length = n) (hpl : J.map PE.pl = K.map PE.pl) (hm : n ≤ 1048580) (hl : ∀ x ∈ J, x.L.length ≤ 1048576) :
    Calls Try.prog 65 #[.slice a n ca, .slice b n cb] w fun e w' =>
      e = .returned (.bool true) ∧ Below w.heap.size w w' := by
  have HJ := hide hJ
  have HK : Hid (K.length = n) := by unfold Hid; rw [← hJ, map_len hpl]
  have HP := hide hpl
  have HL := hide hl
  clear hJ hpl hl
  have hnn : ((n : Int) != (n : Int)) = false := by simp
  go_enter Try.func65, Try.ntmps65
  go_wp2
  go_loopw [5] (fun i wr => ∃ (k : Nat), k ≤ n ∧ i = .int .i64 k ∧ Below w.heap.size w wr) (fun i _ => n - (intOf i).toNat)
  case atStart => exact ⟨0, Nat.zero_le _, rfl, Below.refl _ _⟩
  case round =>
    obtain ⟨k, hk, rfl, hbel⟩ := hrel
    by_cases hlt : k < n
    · obtain ⟨b1, o1, e1, hbw1, hc1⟩ := hr.cells (by rw [HJ.out]; omega)
      obtain ⟨b2, o2, e2, hbw2, hc2⟩ := hq.cells (by rw [HK.out]; omega)
      obtain ⟨c0, c1, c2, hv1⟩ := hc1 k (by rw [HJ.out]; exact hlt)
      obtain ⟨d0, d1, d2, hv2⟩ := hc2 k (by rw [HK.out]; exact hlt)
      have HP1 := PE.pl_inj (map_at HP.out (i := k) (by rw [HJ.out]; exact hlt))
      have HLk : Hid ((eAt J k).L.length ≤ 1048576) := by unfold Hid; rw [eAt_in (by rw [HJ.out]; exact hlt)]; exact HL.out _ (List.getElem_mem _)
      replace hv1 := hv1.below hbel
      replace hv2 := hv2.below hbel
      clear hc1 hc2
      subst e1 e2
      rw [← hbel.cell (p := ⟨b1, o1 + k * 3, none⟩) hbw1] at c0
      rw [← hbel.cell (p := ⟨b1, o1 + k * 3 + 1, none⟩) hbw1] at c1
      rw [← hbel.cell (p := ⟨b1, o1 + k * 3 + 2, none⟩) hbw1] at c2
      rw [← hbel.cell (p := ⟨b2, o2 + k * 3, none⟩) hbw2] at d0
      rw [← hbel.cell (p := ⟨b2, o2 + k * 3 + 1, none⟩) hbw2] at d1
      rw [← hbel.cell (p := ⟨b2, o2 + k * 3 + 2, none⟩) hbw2] at d2
      generalize eAt J k = x at c0 c1 c2 hv1 HP1 HLk
      generalize eAt K k = y at d0 d1 d2 hv2 HP1
      obtain ⟨x0, va, vc, L, x2⟩ := x
      obtain ⟨y0, vb, wc, M, y2⟩ := y
      simp only at c0 c1 c2 hv1 d0 d1 d2 hv2 HP1 HLk
      obtain ⟨rfl, rfl, rfl⟩ := HP1
      have T0 : RdArg wr va L ∧ RdArg wr vb L ∧ Below w.heap.size w wr ∧ w.heap.size ≤ wr.heap.size := ⟨hv1, hv2, hbel, hbel.size⟩
      have T1 : RdArg wr.drew va L := T0.1.heap rfl
      have T2 : RdArg wr.drew vb L := T0.2.1.heap rfl
      clear hv1 hv2 hbel
      go_wp2_with fail
      go_region_held3 (fun W => W.cell? ⟨b1, o1 + k * 3, none⟩ = some (.string x0) ∧ W.cell? ⟨b1, o1 + k * 3 + 1, none⟩ = some (.slice va L.length vc) ∧ W.cell? ⟨b1, o1 + k * 3 + 2, none⟩ = some (.bool x2) ∧ W.cell? ⟨b2, o2 + k * 3, none⟩ = some (.string x0) ∧ W.cell? ⟨b2, o2 + k * 3 + 1, none⟩ = some (.slice vb L.length wc) ∧ W.cell? ⟨b2, o2 + k * 3 + 2, none⟩ = some (.bool x2) ∧ (RdArg W va L ∧ RdArg W vb L ∧ Below w.heap.size w W ∧ w.heap.size ≤ W.heap.size)) (first | exact ⟨c0, c1, c2, d0, d1, d2, T0.1.heap rfl, T0.2.1.heap rfl, T0.2.2.1.drew, T0.2.2.2⟩ | exact keepPat (by assumption) (by assumption))
        (first | (go_at_call 104; refine (eqPat_same _ _ _ _ _ _ _ _ T1 T2 (by have := HLk.out; omega)).mono ?_; rintro e w2 ⟨rfl, hb⟩))
      all_goals
        obtain ⟨-, -, -, -, -, -, -, -, hB2, -⟩ : w2.cell? ⟨b1, o1 + k * 3, none⟩ = some (.string x0) ∧ w2.cell? ⟨b1, o1 + k * 3 + 1, none⟩ = some (.slice va L.length vc) ∧ w2.cell? ⟨b1, o1 + k * 3 + 2, none⟩ = some (.bool x2) ∧ w2.cell? ⟨b2, o2 + k * 3, none⟩ = some (.string x0) ∧ w2.cell? ⟨b2, o2 + k * 3 + 1, none⟩ = some (.slice vb L.length wc) ∧ w2.cell? ⟨b2, o2 + k * 3 + 2, none⟩ = some (.bool x2) ∧ (RdArg w2 va L ∧ RdArg w2 vb L ∧ Below w.heap.size w w2 ∧ w.heap.size ≤ w2.heap.size) := by assumption
        go_wp2
        go_roundw
        case rel => exact ⟨k + 1, by omega, by go_num, hB2⟩
        case measure => simp [intOf]; omega
    · go_wp2
      go_ret
      exact ⟨rfl, hbel⟩
end Go.Proofs.Ytfgigcdfmkfkjaa
