/-
  Texts of this claim joined into one: LawPatS, Box11, LawExpr, LawExprS, LawAct, LawActS, LawCond, LawCondS, MarkF, MarkArg, MarkPatS, MarkExpr, MarkActS, MarkCond.
-/
import Derived.Test.YtcfhpcbkdpgboaaJoined1
import Derived.Deep.RegionHeld3
import Derived.Handy
import Derived.Deep.DeepCutAuto
import Derived.Laws.IdiomStrings
/-
  The contracts of the laws' own helpers on rows of Pats: sz counts off, to copies, eq finds a row the same as its like.
-/
namespace Go.Proofs.Ytcfhpcbkdpgboaa
open Go.RowKit
set_option linter.unusedVariables false

theorem Try.info47D : (Try.prog.info? 47).map (fun i => (i.zero, i.size, i.bytes)) = some (some (.agg #[.string ⟨#[]⟩, .slice none 0 0, .bool false]), 3, 48) := by kernel_rfl

set_option maxRecDepth 100000 in
set_option maxHeartbeats 1600000 in
theorem szPatS_any (a : Option Addr) (cap : Nat) (J : List PE) (left : Int) (w : World) (hr : RdPatS w a J) (hs : ∀ x ∈ J, x.ok) (hm : J.length ≤ maxLen) (h0 : 0 ≤ left) (h1 : left ≤ 1048576) :
    Calls Try.prog 54 #[.slice a J.length cap, .int .i64 left] w fun e w' =>
      (∃ r, e = .returned (.int .i64 r) ∧ (r = -1 ∨ (0 ≤ r ∧ r + ((J.length + (J.map PE.sz).sum : Nat) : Int) ≤ left ∧ ∀ x ∈ J, x.small))) ∧ Below w.heap.size w w' := by
  unfold maxLen at hm
  obtain ⟨n, hN⟩ : ∃ n, n = J.length := ⟨_, rfl⟩
  rw [← hN] at hm ⊢
  have HN := hide hN
  have HS := hide hs
  clear hN hs
  by_cases h2 : left - (n : Int) < 0
  · go_enter Try.func54, Try.ntmps54
    go_wp2
    go_ret
    exact ⟨⟨-1, rfl, .inl rfl⟩, Below.refl _ _⟩
  · go_enter Try.func54, Try.ntmps54
    go_wp2
    go_loopw [1, 5] (fun l i wr => ∃ (k : Nat) (lf : Int), k ≤ n ∧ i = .int .i64 k ∧ l = .int .i64 lf ∧ 0 ≤ lf ∧ lf + (totW PE.sz J k : Int) ≤ left - n ∧ (∀ j, j < k → (eAt J j).small) ∧ Below w.heap.size w wr) (fun _ i _ => n - (intOf i).toNat)
    case atStart => exact ⟨0, left - n, Nat.zero_le _, rfl, rfl, by omega, by rw [totW_zero]; simp, fun j hj => absurd hj (Nat.not_lt_zero _), Below.refl _ _⟩
    case round =>
      obtain ⟨k, lf, hk, rfl, rfl, hlf, hsum, hsm, hbel⟩ := hrel
      have HSm := hide hsm
      clear hsm
      by_cases hlt : k < n
      · obtain ⟨b, off, hab, hbw, hc⟩ := hr.cells (by rw [← HN.out]; omega)
        obtain ⟨c0, c1, c2, hv⟩ := hc k (by rw [← HN.out]; exact hlt)
        have HV := hide (hv.below (hbel.mono (Nat.le_refl _)))
        clear hc hv
        subst hab
        rw [← hbel.cell (p := ⟨b, off + k * 3, none⟩) hbw] at c0
        rw [← hbel.cell (p := ⟨b, off + k * 3 + 1, none⟩) hbw] at c1
        rw [← hbel.cell (p := ⟨b, off + k * 3 + 2, none⟩) hbw] at c2
        have HK : Hid ((eAt J k).ok) := by unfold Hid; rw [eAt_in (by rw [← HN.out]; exact hlt)]; exact HS.out _ (List.getElem_mem _)
        have hst := totW_step (wt := PE.sz) (K := J) (j := k) (by rw [← HN.out]; exact hlt)
        have HSx : Hid ((eAt J k).small → ∀ j, j < k + 1 → (eAt J j).small) := fun hx j hj => by
          by_cases hjk : j = k
          · rw [hjk]; exact hx
          · exact HSm.out j (by omega)
        generalize eAt J k = x at c0 c1 c2 HV HK hst HSx
        obtain ⟨x0, va, vc, L, x2⟩ := x
        rw [show PE.sz ⟨x0, va, vc, L, x2⟩ = x0.size + L.length from rfl] at hst
        simp only at c0 c1 c2 HV HK HSx
        unfold PE.ok at HK
        go_wp2_with fail
        refine (szPat_any x0 va vc L x2 lf _ HK.out.1 HV.out HK.out.2.2 HK.out.2.1 hlf (by omega)).mono ?_
        rintro e w2 ⟨⟨r, rfl, hr1⟩, hb2⟩
        have hbel2 : Below w.heap.size w w2 := hbel.trans (hb2.mono hbel.size)
        clear hb2 c0 c1 c2 hbel
        rcases hr1 with rfl | ⟨hr2, hr3, hr4⟩
        · go_wp2
          go_ret
          exact ⟨⟨-1, rfl, .inl rfl⟩, hbel2⟩
        · have HR : Hid (r + (totW PE.sz J (k + 1) : Int) ≤ left - n) := by unfold Hid; rw [hst]; omega
          have HY := hide (HSx.out ⟨by show x0.size ≤ 1048576; omega, by show L.length ≤ 1048576; omega, hr4⟩)
          have h3 : ¬ (r < 0) := by omega
          clear hr3 hr4 hst hsum HSx
          go_wp2
          go_roundw
          case rel => exact ⟨k + 1, r, by omega, by go_num, rfl, hr2, HR.out, HY.out, hbel2⟩
          case measure => simp [intOf]; omega
      · have HK : Hid (lf + ((n + (J.map PE.sz).sum : Nat) : Int) ≤ left) := by
          unfold Hid
          have hkn : k = J.length := by rw [← HN.out]; omega
          rw [hkn, totW_end] at hsum
          omega
        have HAll : Hid (∀ x ∈ J, x.small) := fun x hx => by
          obtain ⟨j, hj, rfl⟩ := List.getElem_of_mem hx
          rw [← eAt_in hj]
          exact HSm.out j (by rw [← HN.out] at hj; omega)
        clear hsum
        go_wp2
        go_ret
        exact ⟨⟨lf, rfl, .inr ⟨hlf, HK.out, HAll.out⟩⟩, hbel⟩

set_option maxRecDepth 100000 in
set_option maxHeartbeats 3200000 in
theorem toPatS_any (a : Option Addr) (cap : Nat) (J : List PE) (w : World) (hr : RdPatS w a J) (hn : J.length ≤ 1048576) (hl : ∀ x ∈ J, x.L.length ≤ 1048576) :
    Calls Try.prog 57 #[.slice a J.length cap] w fun e w' =>
      ∃ K g, e = .returned (.slice (some ⟨g, 0, none⟩) J.length J.length) ∧ OwnPatS w' w.heap.size w'.heap.size g J.length K K.length ∧ K.map PE.pl = J.map PE.pl ∧ Below w.heap.size w w' := by
  obtain ⟨i0, hi, hz0, hz1, hz2⟩ := info_parts Try.info47D
  obtain ⟨n, hN⟩ : ∃ n, n = J.length := ⟨_, rfl⟩
  rw [← hN] at hn ⊢
  have HN := hide hN
  have HL := hide hl
  clear hN hl
  go_enter Try.func57, Try.ntmps57
  go_wp2_with (at_make; refine wpList_make_full _ rfl _ _ 36 rfl w.heap.size 47 i0 (.agg #[.string ⟨#[]⟩, .slice none 0 0, .bool false]) 3 Try.underlying36 hi hz0 hz1 _ _ _ _ n rfl rfl (by omega) (by omega) ?b2 ?b3 (Nat.le_refl _) ?_)
  case b2 => rw [hz2]; omega
  case b3 => unfold maxLen; omega
  intro w0 hown0 hgrow0
  have hmd : (madeCells #[.string ⟨#[]⟩, .slice none 0 0, .bool false] (n * 3)).toList = rowOf PE.cs (List.replicate n PE.zero) := rowOf_made (x := PE.zero) (cs := #[.string ⟨#[]⟩, .slice none 0 0, .bool false]) rfl (by decide) n
  rw [hmd] at hown0
  clear hmd
  have hs0 : w.heap.size < w0.heap.size := (hown0.lt w.heap.size rfl).2
  have hb0 : Below w.heap.size w w0 := (Below.refl _ _).grown hgrow0 (Nat.le_refl _) (fun k h => by cases h)
  have hO0 : OwnPatS w0 w.heap.size w0.heap.size w.heap.size n (List.replicate n PE.zero) 0 := OwnD.zero (OwnK.of PE.len (by decide) hown0) (Nat.le_refl _) (Nat.le_refl _) hs0
  clear hown0 hgrow0
  go_wp2
  go_loopw [4] (fun i wr => ∃ (k : Nat) (K : List PE), k ≤ n ∧ i = .int .i64 k ∧ K.length = n ∧ OwnPatS wr w.heap.size wr.heap.size w.heap.size n K k ∧ (∀ i, i < k → (eAt K i).pl = (eAt J i).pl) ∧ Below w.heap.size w wr)
    (fun i _ => n - (intOf i).toNat)
  case atStart => exact ⟨0, List.replicate n PE.zero, Nat.zero_le _, rfl, by simp, hO0, fun i hi => absurd hi (Nat.not_lt_zero _), hb0⟩
  case round =>
    clear hO0 hb0 hs0
    obtain ⟨k, K, hk, rfl, hKn, hO, hpl, hbel⟩ := hrel
    have HKn := hide hKn
    have HPl := hide hpl
    have HO := hide hO
    clear hKn hpl hO
    by_cases hlt : k < n
    · obtain ⟨b, off, hab, hbw, hc⟩ := hr.cells (by rw [← HN.out]; omega)
      obtain ⟨c0, c1, c2, hv⟩ := hc k (by rw [← HN.out]; exact hlt)
      have HV := hide (hv.below hbel)
      clear hc hv
      subst hab
      rw [← hbel.cell (p := ⟨b, off + k * 3, none⟩) hbw] at c0
      rw [← hbel.cell (p := ⟨b, off + k * 3 + 1, none⟩) hbw] at c1
      rw [← hbel.cell (p := ⟨b, off + k * 3 + 2, none⟩) hbw] at c2
      have HK : Hid ((eAt J k).L.length ≤ 1048576) := by unfold Hid; rw [eAt_in (by rw [← HN.out]; exact hlt)]; exact HL.out _ (List.getElem_mem _)
      obtain ⟨x, hx⟩ : ∃ x, x = eAt J k := ⟨_, rfl⟩
      rw [← hx] at c0 c1 c2 HV HK
      have HX := hide hx
      clear hx
      obtain ⟨x0, va, vc, L, x2⟩ := x
      simp only at c0 c1 c2 HV HK
      go_wp2_with fail
      refine (toPat_any x0 va vc L x2 _ HV.out HK.out).mono ?_
      rintro e w2 ⟨g, rfl, hg, o, hb2⟩
      have hown2 : w2.ownsRow 0 47 3 (.slice (some ⟨w.heap.size, 0, none⟩) n n) n (rowOf PE.cs K) := by
        have := ownsRow_below' HO.out.own hb2
        rw [HKn.out] at this; exact this
      have hbel2 : Below w.heap.size w w2 := hbel.trans (hb2.mono hbel.size)
      have hlen : (rowOf PE.cs K).length = n * 3 := by rw [rowOf_length PE.len, HKn.out]
      have hmem : ∀ j, j < 3 → ∃ u, w2.cell? ⟨w.heap.size, k * 3 + j, none⟩ = some u := fun j hj => by
        rw [hown2.cellAt (k * 3 + j) (by omega), List.getElem?_eq_getElem (by omega)]
        exact ⟨_, rfl⟩
      obtain ⟨u0, m0⟩ := hmem 0 (by omega)
      obtain ⟨u1, m1⟩ := hmem 1 (by omega)
      obtain ⟨u2, m2⟩ := hmem 2 (by omega)
      rw [Nat.add_zero] at m0
      have f0 := hown2.frozenAt (k * 3)
      have f1 := hown2.frozenAt (k * 3 + 1)
      have f2 := hown2.frozenAt (k * 3 + 2)
      have s0 := hown2.stored (k * 3) (.string x0)
      have s1 := s0.1.stored (k * 3 + 1) (.slice (some ⟨g, 0, none⟩) L.length L.length)
      have s2 := s1.1.stored (k * 3 + 2) (.bool x2)
      have hset := rowOf_set_PE ⟨x0, some ⟨g, 0, none⟩, L.length, L, x2⟩ K k (by rw [HKn.out]; exact hlt)
      have hgr := (grown_tt (grown_tt s0.2 s1.2) s2.2)
      have hown3 := s2.1
      simp only at hset
      rw [hset] at hown3
      have hO3 : OwnK 47 PE.cs 3 (((w2.setCell ⟨w.heap.size, k * 3, none⟩ (.string x0)).setCell ⟨w.heap.size, k * 3 + 1, none⟩ (.slice (some ⟨g, 0, none⟩) L.length L.length)).setCell ⟨w.heap.size, k * 3 + 2, none⟩ (.bool x2)) w.heap.size n (K.set k ⟨x0, some ⟨g, 0, none⟩, L.length, L, x2⟩) := OwnK.of PE.len (by decide) hown3
      have HC := hide (HO.out.step innPat (by rw [HKn.out]; exact hlt) hb2 (x := ⟨x0, some ⟨g, 0, none⟩, L.length, L, x2⟩) ⟨g, rfl, hg, o.lt, o⟩ hgr hO3)
      have HB := hide (below_set hbel2 hgr (Nat.le_refl _))
      have hsz3 : w2.heap.size ≤ (((w2.setCell ⟨w.heap.size, k * 3, none⟩ (.string x0)).setCell ⟨w.heap.size, k * 3 + 1, none⟩ (.slice (some ⟨g, 0, none⟩) L.length L.length)).setCell ⟨w.heap.size, k * 3 + 2, none⟩ (.bool x2)).heap.size := hgr.size
      have HLen : Hid ((K.set k ⟨x0, some ⟨g, 0, none⟩, L.length, L, x2⟩).length = n) := by unfold Hid; rw [List.length_set, HKn.out]
      have HPl2 : Hid (∀ i, i < k + 1 → (eAt (K.set k ⟨x0, some ⟨g, 0, none⟩, L.length, L, x2⟩) i).pl = (eAt J i).pl) := fun i hi => by
        rw [eAt_set (by rw [HKn.out]; exact hlt)]
        by_cases e : i = k
        · rw [if_pos e, e, ← HX.out]; rfl
        · rw [if_neg e]; exact HPl.out i (by omega)
      have HW := hide (HC.out.weaken (Nat.le_refl _) hsz3 (Nat.le_refl _))
      clear hmem hlen c0 c1 c2 hbel hb2 s0 s1 s2 hset hown2 hbel2 o HV HK HPl HO hO3 hown3 hgr HC hsz3
      go_wp2
      go_roundw
      case rel => exact ⟨k + 1, _, by omega, by go_num, HLen.out, HW.out, HPl2.out, HB.out⟩
      case measure => simp [intOf]; omega
    · have hkn : k = K.length := by rw [HKn.out]; omega
      have HR : Hid (OwnPatS wr w.heap.size wr.heap.size w.heap.size n K K.length ∧ K.map PE.pl = J.map PE.pl) :=
        ⟨hkn ▸ HO.out, map_ext (by rw [HKn.out, HN.out]) (fun i hi => HPl.out i (by rw [hkn]; exact hi))⟩
      clear hkn
      go_wp2
      go_ret
      exact ⟨K, _, rfl, HR.out.1, HR.out.2, hbel⟩

/-- cells in memory, two lists, and all that was there at the head -/
theorem keepPat {w0 W w' : World} {p0 p1 p2 p3 p4 p5 : Addr} {v0 v1 v2 v3 v4 v5 : Value} {a b : Option Addr} {L : List A5} (hb : Below W.heap.size W w')
    (h : W.cell? p0 = some v0 ∧ W.cell? p1 = some v1 ∧ W.cell? p2 = some v2 ∧ W.cell? p3 = some v3 ∧ W.cell? p4 = some v4 ∧ W.cell? p5 = some v5 ∧ (RdArg W a L ∧ RdArg W b L ∧ Below w0.heap.size w0 W ∧ w0.heap.size ≤ W.heap.size)) :
    w'.cell? p0 = some v0 ∧ w'.cell? p1 = some v1 ∧ w'.cell? p2 = some v2 ∧ w'.cell? p3 = some v3 ∧ w'.cell? p4 = some v4 ∧ w'.cell? p5 = some v5 ∧ (RdArg w' a L ∧ RdArg w' b L ∧ Below w0.heap.size w0 w' ∧ w0.heap.size ≤ w'.heap.size) := by
  obtain ⟨g0, g1, g2, g3, g4, g5, q1, q2, q3, q4⟩ := h
  have k : ∀ {a : Addr} {v : Value}, W.cell? a = some v → w'.cell? a = some v := fun {a v} h => by rw [hb.cell (World.block_lt_of_cell? W _ h)]; exact h
  exact ⟨k g0, k g1, k g2, k g3, k g4, k g5, q1.below hb, q2.below hb, q3.trans (hb.mono q4), Nat.le_trans q4 hb.size⟩

set_option maxRecDepth 100000 in
set_option maxHeartbeats 3200000 in
theorem eqPatS_same (a b : Option Addr) (ca cb n : Nat) (J K : List PE) (w : World) (hr : RdPatS w a J) (hq : RdPatS w b K) (hJ : J.length = n) (hpl : J.map PE.pl = K.map PE.pl) (hm : n ≤ 1048580) (hl : ∀ x ∈ J, x.L.length ≤ 1048576) :
    Calls Try.prog 60 #[.slice a n ca, .slice b n cb] w fun e w' =>
      e = .returned (.bool true) ∧ Below w.heap.size w w' := by
  have HJ := hide hJ
  have HK : Hid (K.length = n) := by unfold Hid; rw [← hJ, map_len hpl]
  have HP := hide hpl
  have HL := hide hl
  clear hJ hpl hl
  have hnn : ((n : Int) != (n : Int)) = false := by simp
  go_enter Try.func60, Try.ntmps60
  go_wp2
  go_loopw [5] (fun i wr => ∃ (k : Nat), k ≤ n ∧ i = .int .i64 k ∧ Below w.heap.size w wr) (fun i _ => n - (intOf i).toNat)
  case atStart => exact ⟨0, Nat.zero_le _, rfl, Below.refl _ _⟩
  case round =>
    obtain ⟨k, hk, rfl, hbel⟩ := hrel
    by_cases hlt : k < n
    · obtain ⟨b1, o1, e1, hbw1, hc1⟩ := hr.cells (by rw [HJ.out]; omega)
      obtain ⟨b2, o2, e2, hbw2, hc2⟩ := hq.cells (by rw [HK.out]; omega)
      obtain ⟨c0, c1, c2, hv1⟩ := hc1 k (by rw [HJ.out]; exact hlt)
      obtain ⟨d0, d1, d2, hv2⟩ := hc2 k (by rw [HK.out]; exact hlt)
      have HP1 := PE.pl_inj (map_at HP.out (i := k) (by rw [HJ.out]; exact hlt))
      have HLk : Hid ((eAt J k).L.length ≤ 1048576) := by unfold Hid; rw [eAt_in (by rw [HJ.out]; exact hlt)]; exact HL.out _ (List.getElem_mem _)
      replace hv1 := hv1.below hbel
      replace hv2 := hv2.below hbel
      clear hc1 hc2
      subst e1 e2
      rw [← hbel.cell (p := ⟨b1, o1 + k * 3, none⟩) hbw1] at c0
      rw [← hbel.cell (p := ⟨b1, o1 + k * 3 + 1, none⟩) hbw1] at c1
      rw [← hbel.cell (p := ⟨b1, o1 + k * 3 + 2, none⟩) hbw1] at c2
      rw [← hbel.cell (p := ⟨b2, o2 + k * 3, none⟩) hbw2] at d0
      rw [← hbel.cell (p := ⟨b2, o2 + k * 3 + 1, none⟩) hbw2] at d1
      rw [← hbel.cell (p := ⟨b2, o2 + k * 3 + 2, none⟩) hbw2] at d2
      generalize eAt J k = x at c0 c1 c2 hv1 HP1 HLk
      generalize eAt K k = y at d0 d1 d2 hv2 HP1
      obtain ⟨x0, va, vc, L, x2⟩ := x
      obtain ⟨y0, vb, wc, M, y2⟩ := y
      simp only at c0 c1 c2 hv1 d0 d1 d2 hv2 HP1 HLk
      obtain ⟨rfl, rfl, rfl⟩ := HP1
      have T0 : RdArg wr va L ∧ RdArg wr vb L ∧ Below w.heap.size w wr ∧ w.heap.size ≤ wr.heap.size := ⟨hv1, hv2, hbel, hbel.size⟩
      have T1 : RdArg wr.drew va L := T0.1.heap rfl
      have T2 : RdArg wr.drew vb L := T0.2.1.heap rfl
      clear hv1 hv2 hbel
      go_wp2_with fail
      go_region_held3 (fun W => W.cell? ⟨b1, o1 + k * 3, none⟩ = some (.string x0) ∧ W.cell? ⟨b1, o1 + k * 3 + 1, none⟩ = some (.slice va L.length vc) ∧ W.cell? ⟨b1, o1 + k * 3 + 2, none⟩ = some (.bool x2) ∧ W.cell? ⟨b2, o2 + k * 3, none⟩ = some (.string x0) ∧ W.cell? ⟨b2, o2 + k * 3 + 1, none⟩ = some (.slice vb L.length wc) ∧ W.cell? ⟨b2, o2 + k * 3 + 2, none⟩ = some (.bool x2) ∧ (RdArg W va L ∧ RdArg W vb L ∧ Below w.heap.size w W ∧ w.heap.size ≤ W.heap.size)) (first | exact ⟨c0, c1, c2, d0, d1, d2, T0.1.heap rfl, T0.2.1.heap rfl, T0.2.2.1.drew, T0.2.2.2⟩ | exact keepPat (by assumption) (by assumption))
        (first | (go_at_call 83; refine (eqPat_same _ _ _ _ _ _ _ _ T1 T2 (by have := HLk.out; omega)).mono ?_; rintro e w2 ⟨rfl, hb⟩))
      all_goals
        obtain ⟨-, -, -, -, -, -, -, -, hB2, -⟩ : w2.cell? ⟨b1, o1 + k * 3, none⟩ = some (.string x0) ∧ w2.cell? ⟨b1, o1 + k * 3 + 1, none⟩ = some (.slice va L.length vc) ∧ w2.cell? ⟨b1, o1 + k * 3 + 2, none⟩ = some (.bool x2) ∧ w2.cell? ⟨b2, o2 + k * 3, none⟩ = some (.string x0) ∧ w2.cell? ⟨b2, o2 + k * 3 + 1, none⟩ = some (.slice vb L.length wc) ∧ w2.cell? ⟨b2, o2 + k * 3 + 2, none⟩ = some (.bool x2) ∧ (RdArg w2 va L ∧ RdArg w2 vb L ∧ Below w.heap.size w w2 ∧ w.heap.size ≤ w2.heap.size) := by assumption
        go_wp2
        go_roundw
        case rel => exact ⟨k + 1, by omega, by go_num, hB2⟩
        case measure => simp [intOf]; omega
    · go_wp2
      go_ret
      exact ⟨rfl, hbel⟩
end Go.Proofs.Ytcfhpcbkdpgboaa
/-
  Boxes of eleven cells, and two or three boxes side by side: their cells set, what stands.
-/
namespace Go.Proofs.Ytcfhpcbkdpgboaa
open Go.RowKit
set_option linter.unusedVariables false

theorem boxes3 (w : World) (c1 c2 c3 : Array Value) (T1 T2 T3 : TypeId) : (((w.alloc (.cells c1 T1)).alloc (.cells c2 T2)).alloc (.cells c3 T3)).heap[w.heap.size]? = some (.cells c1 T1 (0, 0)) ∧ (((w.alloc (.cells c1 T1)).alloc (.cells c2 T2)).alloc (.cells c3 T3)).heap[w.heap.size + 1]? = some (.cells c2 T2 (0, 0)) ∧ (((w.alloc (.cells c1 T1)).alloc (.cells c2 T2)).alloc (.cells c3 T3)).heap[w.heap.size + 1 + 1]? = some (.cells c3 T3 (0, 0)) ∧ Below w.heap.size w (((w.alloc (.cells c1 T1)).alloc (.cells c2 T2)).alloc (.cells c3 T3)) := by
  have b0 := below_al w (.cells c1 T1)
  have b1 := b0.alloc b0.size (.cells c2 T2)
  have b2 := b1.alloc b1.size (.cells c3 T3)
  have hA := box_old (box_old (boxk_new w c1 T1) (by simp) (.cells c2 T2)) (by simp; omega) (.cells c3 T3)
  have hR := box_old (boxk_new (w.alloc (.cells c1 T1)) c2 T2) (by simp) (.cells c3 T3)
  have hX := boxk_new ((w.alloc (.cells c1 T1)).alloc (.cells c2 T2)) c3 T3
  simp only [World.size_alloc] at hR hX
  exact ⟨hA, hR, hX, b2⟩
theorem boxes2 (w : World) (c1 c2 : Array Value) (T1 T2 : TypeId) : ((w.alloc (.cells c1 T1)).alloc (.cells c2 T2)).heap[w.heap.size]? = some (.cells c1 T1 (0, 0)) ∧ ((w.alloc (.cells c1 T1)).alloc (.cells c2 T2)).heap[w.heap.size + 1]? = some (.cells c2 T2 (0, 0)) ∧ Below w.heap.size w ((w.alloc (.cells c1 T1)).alloc (.cells c2 T2)) := by
  have b0 := below_al w (.cells c1 T1)
  have b1 := b0.alloc b0.size (.cells c2 T2)
  have hA := box_old (boxk_new w c1 T1) (by simp) (.cells c2 T2)
  have hX := boxk_new (w.alloc (.cells c1 T1)) c2 T2
  simp only [World.size_alloc] at hX
  exact ⟨hA, hX, b1⟩
theorem box11_set {w : World} {q : Nat} {c0 c1 c2 c3 c4 c5 c6 c7 c8 c9 c10 : Value} {T : TypeId} (h : w.heap[q]? = some (.cells #[c0, c1, c2, c3, c4, c5, c6, c7, c8, c9, c10] T (0, 0))) (v0 v1 v2 v3 v4 v5 v6 v7 v8 v9 v10 : Value) :
    (((((((((((w.setCell ⟨q, 0, none⟩ v0).setCell ⟨q, 1, none⟩ v1).setCell ⟨q, 2, none⟩ v2).setCell ⟨q, 3, none⟩ v3).setCell ⟨q, 4, none⟩ v4).setCell ⟨q, 5, none⟩ v5).setCell ⟨q, 6, none⟩ v6).setCell ⟨q, 7, none⟩ v7).setCell ⟨q, 8, none⟩ v8).setCell ⟨q, 9, none⟩ v9).setCell ⟨q, 10, none⟩ v10).heap[q]? = some (.cells #[v0, v1, v2, v3, v4, v5, v6, v7, v8, v9, v10] T (0, 0)) ∧ w.grownBy (((((((((((w.setCell ⟨q, 0, none⟩ v0).setCell ⟨q, 1, none⟩ v1).setCell ⟨q, 2, none⟩ v2).setCell ⟨q, 3, none⟩ v3).setCell ⟨q, 4, none⟩ v4).setCell ⟨q, 5, none⟩ v5).setCell ⟨q, 6, none⟩ v6).setCell ⟨q, 7, none⟩ v7).setCell ⟨q, 8, none⟩ v8).setCell ⟨q, 9, none⟩ v9).setCell ⟨q, 10, none⟩ v10) (some q) := by
  have g0 := (boxk_set h 0 v0).2
  have h0 : (w.setCell ⟨q, 0, none⟩ v0).heap[q]? = some (.cells #[v0, c1, c2, c3, c4, c5, c6, c7, c8, c9, c10] T (0, 0)) := (boxk_set h 0 v0).1
  have g1 := (boxk_set h0 1 v1).2
  have h1 : ((w.setCell ⟨q, 0, none⟩ v0).setCell ⟨q, 1, none⟩ v1).heap[q]? = some (.cells #[v0, v1, c2, c3, c4, c5, c6, c7, c8, c9, c10] T (0, 0)) := (boxk_set h0 1 v1).1
  have g2 := (boxk_set h1 2 v2).2
  have h2 : (((w.setCell ⟨q, 0, none⟩ v0).setCell ⟨q, 1, none⟩ v1).setCell ⟨q, 2, none⟩ v2).heap[q]? = some (.cells #[v0, v1, v2, c3, c4, c5, c6, c7, c8, c9, c10] T (0, 0)) := (boxk_set h1 2 v2).1
  have g3 := (boxk_set h2 3 v3).2
  have h3 : ((((w.setCell ⟨q, 0, none⟩ v0).setCell ⟨q, 1, none⟩ v1).setCell ⟨q, 2, none⟩ v2).setCell ⟨q, 3, none⟩ v3).heap[q]? = some (.cells #[v0, v1, v2, v3, c4, c5, c6, c7, c8, c9, c10] T (0, 0)) := (boxk_set h2 3 v3).1
  have g4 := (boxk_set h3 4 v4).2
  have h4 : (((((w.setCell ⟨q, 0, none⟩ v0).setCell ⟨q, 1, none⟩ v1).setCell ⟨q, 2, none⟩ v2).setCell ⟨q, 3, none⟩ v3).setCell ⟨q, 4, none⟩ v4).heap[q]? = some (.cells #[v0, v1, v2, v3, v4, c5, c6, c7, c8, c9, c10] T (0, 0)) := (boxk_set h3 4 v4).1
  have g5 := (boxk_set h4 5 v5).2
  have h5 : ((((((w.setCell ⟨q, 0, none⟩ v0).setCell ⟨q, 1, none⟩ v1).setCell ⟨q, 2, none⟩ v2).setCell ⟨q, 3, none⟩ v3).setCell ⟨q, 4, none⟩ v4).setCell ⟨q, 5, none⟩ v5).heap[q]? = some (.cells #[v0, v1, v2, v3, v4, v5, c6, c7, c8, c9, c10] T (0, 0)) := (boxk_set h4 5 v5).1
  have g6 := (boxk_set h5 6 v6).2
  have h6 : (((((((w.setCell ⟨q, 0, none⟩ v0).setCell ⟨q, 1, none⟩ v1).setCell ⟨q, 2, none⟩ v2).setCell ⟨q, 3, none⟩ v3).setCell ⟨q, 4, none⟩ v4).setCell ⟨q, 5, none⟩ v5).setCell ⟨q, 6, none⟩ v6).heap[q]? = some (.cells #[v0, v1, v2, v3, v4, v5, v6, c7, c8, c9, c10] T (0, 0)) := (boxk_set h5 6 v6).1
  have g7 := (boxk_set h6 7 v7).2
  have h7 : ((((((((w.setCell ⟨q, 0, none⟩ v0).setCell ⟨q, 1, none⟩ v1).setCell ⟨q, 2, none⟩ v2).setCell ⟨q, 3, none⟩ v3).setCell ⟨q, 4, none⟩ v4).setCell ⟨q, 5, none⟩ v5).setCell ⟨q, 6, none⟩ v6).setCell ⟨q, 7, none⟩ v7).heap[q]? = some (.cells #[v0, v1, v2, v3, v4, v5, v6, v7, c8, c9, c10] T (0, 0)) := (boxk_set h6 7 v7).1
  have g8 := (boxk_set h7 8 v8).2
  have h8 : (((((((((w.setCell ⟨q, 0, none⟩ v0).setCell ⟨q, 1, none⟩ v1).setCell ⟨q, 2, none⟩ v2).setCell ⟨q, 3, none⟩ v3).setCell ⟨q, 4, none⟩ v4).setCell ⟨q, 5, none⟩ v5).setCell ⟨q, 6, none⟩ v6).setCell ⟨q, 7, none⟩ v7).setCell ⟨q, 8, none⟩ v8).heap[q]? = some (.cells #[v0, v1, v2, v3, v4, v5, v6, v7, v8, c9, c10] T (0, 0)) := (boxk_set h7 8 v8).1
  have g9 := (boxk_set h8 9 v9).2
  have h9 : ((((((((((w.setCell ⟨q, 0, none⟩ v0).setCell ⟨q, 1, none⟩ v1).setCell ⟨q, 2, none⟩ v2).setCell ⟨q, 3, none⟩ v3).setCell ⟨q, 4, none⟩ v4).setCell ⟨q, 5, none⟩ v5).setCell ⟨q, 6, none⟩ v6).setCell ⟨q, 7, none⟩ v7).setCell ⟨q, 8, none⟩ v8).setCell ⟨q, 9, none⟩ v9).heap[q]? = some (.cells #[v0, v1, v2, v3, v4, v5, v6, v7, v8, v9, c10] T (0, 0)) := (boxk_set h8 9 v9).1
  have g10 := (boxk_set h9 10 v10).2
  have h10 : (((((((((((w.setCell ⟨q, 0, none⟩ v0).setCell ⟨q, 1, none⟩ v1).setCell ⟨q, 2, none⟩ v2).setCell ⟨q, 3, none⟩ v3).setCell ⟨q, 4, none⟩ v4).setCell ⟨q, 5, none⟩ v5).setCell ⟨q, 6, none⟩ v6).setCell ⟨q, 7, none⟩ v7).setCell ⟨q, 8, none⟩ v8).setCell ⟨q, 9, none⟩ v9).setCell ⟨q, 10, none⟩ v10).heap[q]? = some (.cells #[v0, v1, v2, v3, v4, v5, v6, v7, v8, v9, v10] T (0, 0)) := (boxk_set h9 10 v10).1
  exact ⟨h10, (grown_tt (grown_tt (grown_tt (grown_tt (grown_tt (grown_tt (grown_tt (grown_tt (grown_tt (grown_tt g0 g1) g2) g3) g4) g5) g6) g7) g8) g9) g10)⟩
theorem box11_setL {w : World} {q : Nat} {c0 c1 c2 c3 c4 c5 c6 c7 c8 c9 c10 : Value} {T : TypeId} (h : w.heap[q]? = some (.cells #[c0, c1, c2, c3, c4, c5, c6, c7, c8, c9, c10] T (0, 0))) (v1 v2 v3 v4 v5 : Value) :
    (((((w.setCell ⟨q, 1, none⟩ v1).setCell ⟨q, 2, none⟩ v2).setCell ⟨q, 3, none⟩ v3).setCell ⟨q, 4, none⟩ v4).setCell ⟨q, 5, none⟩ v5).heap[q]? = some (.cells #[c0, v1, v2, v3, v4, v5, c6, c7, c8, c9, c10] T (0, 0)) ∧ w.grownBy (((((w.setCell ⟨q, 1, none⟩ v1).setCell ⟨q, 2, none⟩ v2).setCell ⟨q, 3, none⟩ v3).setCell ⟨q, 4, none⟩ v4).setCell ⟨q, 5, none⟩ v5) (some q) := by
  have g1 := (boxk_set h 1 v1).2
  have h1 : (w.setCell ⟨q, 1, none⟩ v1).heap[q]? = some (.cells #[c0, v1, c2, c3, c4, c5, c6, c7, c8, c9, c10] T (0, 0)) := (boxk_set h 1 v1).1
  have g2 := (boxk_set h1 2 v2).2
  have h2 : ((w.setCell ⟨q, 1, none⟩ v1).setCell ⟨q, 2, none⟩ v2).heap[q]? = some (.cells #[c0, v1, v2, c3, c4, c5, c6, c7, c8, c9, c10] T (0, 0)) := (boxk_set h1 2 v2).1
  have g3 := (boxk_set h2 3 v3).2
  have h3 : (((w.setCell ⟨q, 1, none⟩ v1).setCell ⟨q, 2, none⟩ v2).setCell ⟨q, 3, none⟩ v3).heap[q]? = some (.cells #[c0, v1, v2, v3, c4, c5, c6, c7, c8, c9, c10] T (0, 0)) := (boxk_set h2 3 v3).1
  have g4 := (boxk_set h3 4 v4).2
  have h4 : ((((w.setCell ⟨q, 1, none⟩ v1).setCell ⟨q, 2, none⟩ v2).setCell ⟨q, 3, none⟩ v3).setCell ⟨q, 4, none⟩ v4).heap[q]? = some (.cells #[c0, v1, v2, v3, v4, c5, c6, c7, c8, c9, c10] T (0, 0)) := (boxk_set h3 4 v4).1
  have g5 := (boxk_set h4 5 v5).2
  have h5 : (((((w.setCell ⟨q, 1, none⟩ v1).setCell ⟨q, 2, none⟩ v2).setCell ⟨q, 3, none⟩ v3).setCell ⟨q, 4, none⟩ v4).setCell ⟨q, 5, none⟩ v5).heap[q]? = some (.cells #[c0, v1, v2, v3, v4, v5, c6, c7, c8, c9, c10] T (0, 0)) := (boxk_set h4 5 v5).1
  exact ⟨h5, (grown_tt (grown_tt (grown_tt (grown_tt g1 g2) g3) g4) g5)⟩
theorem box11_setR {w : World} {q : Nat} {c0 c1 c2 c3 c4 c5 c6 c7 c8 c9 c10 : Value} {T : TypeId} (h : w.heap[q]? = some (.cells #[c0, c1, c2, c3, c4, c5, c6, c7, c8, c9, c10] T (0, 0))) (v6 v7 v8 v9 v10 : Value) :
    (((((w.setCell ⟨q, 6, none⟩ v6).setCell ⟨q, 7, none⟩ v7).setCell ⟨q, 8, none⟩ v8).setCell ⟨q, 9, none⟩ v9).setCell ⟨q, 10, none⟩ v10).heap[q]? = some (.cells #[c0, c1, c2, c3, c4, c5, v6, v7, v8, v9, v10] T (0, 0)) ∧ w.grownBy (((((w.setCell ⟨q, 6, none⟩ v6).setCell ⟨q, 7, none⟩ v7).setCell ⟨q, 8, none⟩ v8).setCell ⟨q, 9, none⟩ v9).setCell ⟨q, 10, none⟩ v10) (some q) := by
  have g6 := (boxk_set h 6 v6).2
  have h6 : (w.setCell ⟨q, 6, none⟩ v6).heap[q]? = some (.cells #[c0, c1, c2, c3, c4, c5, v6, c7, c8, c9, c10] T (0, 0)) := (boxk_set h 6 v6).1
  have g7 := (boxk_set h6 7 v7).2
  have h7 : ((w.setCell ⟨q, 6, none⟩ v6).setCell ⟨q, 7, none⟩ v7).heap[q]? = some (.cells #[c0, c1, c2, c3, c4, c5, v6, v7, c8, c9, c10] T (0, 0)) := (boxk_set h6 7 v7).1
  have g8 := (boxk_set h7 8 v8).2
  have h8 : (((w.setCell ⟨q, 6, none⟩ v6).setCell ⟨q, 7, none⟩ v7).setCell ⟨q, 8, none⟩ v8).heap[q]? = some (.cells #[c0, c1, c2, c3, c4, c5, v6, v7, v8, c9, c10] T (0, 0)) := (boxk_set h7 8 v8).1
  have g9 := (boxk_set h8 9 v9).2
  have h9 : ((((w.setCell ⟨q, 6, none⟩ v6).setCell ⟨q, 7, none⟩ v7).setCell ⟨q, 8, none⟩ v8).setCell ⟨q, 9, none⟩ v9).heap[q]? = some (.cells #[c0, c1, c2, c3, c4, c5, v6, v7, v8, v9, c10] T (0, 0)) := (boxk_set h8 9 v9).1
  have g10 := (boxk_set h9 10 v10).2
  have h10 : (((((w.setCell ⟨q, 6, none⟩ v6).setCell ⟨q, 7, none⟩ v7).setCell ⟨q, 8, none⟩ v8).setCell ⟨q, 9, none⟩ v9).setCell ⟨q, 10, none⟩ v10).heap[q]? = some (.cells #[c0, c1, c2, c3, c4, c5, v6, v7, v8, v9, v10] T (0, 0)) := (boxk_set h9 10 v10).1
  exact ⟨h10, (grown_tt (grown_tt (grown_tt (grown_tt g6 g7) g8) g9) g10)⟩
theorem box11_post {P : Program} {f : Func} {Q : Ending → World → Prop} {x : Exit} {act : Act} {w : World} {q : Nat} {c0 c1 c2 c3 c4 c5 c6 c7 c8 c9 c10 v0 v1 v2 v3 v4 v5 v6 v7 v8 v9 v10 : Value} {T : TypeId} (h : w.heap[q]? = some (.cells #[c0, c1, c2, c3, c4, c5, c6, c7, c8, c9, c10] T (0, 0)))
    (k : ∀ w2, w2.heap[q]? = some (.cells #[v0, v1, v2, v3, v4, v5, v6, v7, v8, v9, v10] T (0, 0)) → w.grownBy w2 (some q) → bodyPost P f Q x act w2) : bodyPost P f Q x act (((((((((((w.setCell ⟨q, 0, none⟩ v0).setCell ⟨q, 1, none⟩ v1).setCell ⟨q, 2, none⟩ v2).setCell ⟨q, 3, none⟩ v3).setCell ⟨q, 4, none⟩ v4).setCell ⟨q, 5, none⟩ v5).setCell ⟨q, 6, none⟩ v6).setCell ⟨q, 7, none⟩ v7).setCell ⟨q, 8, none⟩ v8).setCell ⟨q, 9, none⟩ v9).setCell ⟨q, 10, none⟩ v10) :=
  k _ (box11_set h v0 v1 v2 v3 v4 v5 v6 v7 v8 v9 v10).1 (box11_set h v0 v1 v2 v3 v4 v5 v6 v7 v8 v9 v10).2
end Go.Proofs.Ytcfhpcbkdpgboaa
/-
  The contracts of the laws' own helpers on Exprs: to copies, sz counts off, eq finds one the same as itself.
-/
namespace Go.Proofs.Ytcfhpcbkdpgboaa
open Go.RowKit
set_option linter.unusedVariables false

theorem Try.info104 : (Try.prog.info? 104).map (fun i => (i.zero, i.size, i.bytes)) = some (some (.agg #[.string ⟨#[]⟩, .int .i64 0, .string ⟨#[]⟩, .int .i64 0, .int .i64 0, .string ⟨#[]⟩, .int .i64 0, .string ⟨#[]⟩, .int .i64 0, .int .i64 0, .string ⟨#[]⟩]), 11, 128) := by kernel_rfl

set_option maxRecDepth 100000 in
set_option maxHeartbeats 3200000 in
theorem toExpr_any (Op : ByteArray) (LK : Int) (LS : ByteArray) (LVK : Int) (LVN : Int) (LVS : ByteArray) (RK : Int) (RS : ByteArray) (RVK : Int) (RVN : Int) (RVS : ByteArray) (w : World) :
    Calls Try.prog 106 #[.agg #[.string Op, .int .i64 LK, .string LS, .int .i64 LVK, .int .i64 LVN, .string LVS, .int .i64 RK, .string RS, .int .i64 RVK, .int .i64 RVN, .string RVS]] w fun e w' => e = .returned (.agg #[.string Op, .int .i64 LK, .string LS, .int .i64 LVK, .int .i64 LVN, .string LVS, .int .i64 RK, .string RS, .int .i64 RVK, .int .i64 RVN, .string RVS]) ∧ Below w.heap.size w w' := by
  go_enter Try.func106, Try.ntmps106
  go_wp2_with fail
  obtain ⟨hA, hR, hX, b2⟩ := boxes3 w #[.string Op, .int .i64 LK, .string LS, .int .i64 LVK, .int .i64 LVN, .string LVS, .int .i64 RK, .string RS, .int .i64 RVK, .int .i64 RVN, .string RVS] #[.string ⟨#[]⟩, .int .i64 0, .string ⟨#[]⟩, .int .i64 0, .int .i64 0, .string ⟨#[]⟩, .int .i64 0, .string ⟨#[]⟩, .int .i64 0, .int .i64 0, .string ⟨#[]⟩] #[.string Op, .int .i64 0, .string ⟨#[]⟩, .int .i64 0, .int .i64 0, .string ⟨#[]⟩, .int .i64 0, .string ⟨#[]⟩, .int .i64 0, .int .i64 0, .string ⟨#[]⟩] 155 104 104
  refine (toArg_any LK LS LVK LVN LVS _).mono ?_
  rintro e w1 ⟨rfl, hb⟩
  have HA := hide (box_below hA hb (by simp; omega))
  have HR := hide (box_below hR hb (by simp))
  have HX := hide (box_below hX hb (by simp))
  have hB : Below w.heap.size w w1 := b2.trans (hb.mono b2.size)
  clear hb hR hX hA b2
  have x0 := boxk_cell HX.out 0 _ rfl
  have xf0 := boxk_frozen HX.out 0
  have x1 := boxk_cell HX.out 1 _ rfl
  have xf1 := boxk_frozen HX.out 1
  have x2 := boxk_cell HX.out 2 _ rfl
  have xf2 := boxk_frozen HX.out 2
  have x3 := boxk_cell HX.out 3 _ rfl
  have xf3 := boxk_frozen HX.out 3
  have x4 := boxk_cell HX.out 4 _ rfl
  have xf4 := boxk_frozen HX.out 4
  have x5 := boxk_cell HX.out 5 _ rfl
  have xf5 := boxk_frozen HX.out 5
  have x6 := boxk_cell HX.out 6 _ rfl
  have xf6 := boxk_frozen HX.out 6
  have x7 := boxk_cell HX.out 7 _ rfl
  have xf7 := boxk_frozen HX.out 7
  have x8 := boxk_cell HX.out 8 _ rfl
  have xf8 := boxk_frozen HX.out 8
  have x9 := boxk_cell HX.out 9 _ rfl
  have xf9 := boxk_frozen HX.out 9
  have x10 := boxk_cell HX.out 10 _ rfl
  have xf10 := boxk_frozen HX.out 10
  have a6 := boxk_cell HA.out 6 _ rfl
  have a7 := boxk_cell HA.out 7 _ rfl
  have a8 := boxk_cell HA.out 8 _ rfl
  have a9 := boxk_cell HA.out 9 _ rfl
  have a10 := boxk_cell HA.out 10 _ rfl
  have HL := hide (box11_setL HX.out (.int .i64 LK) (.string LS) (.int .i64 LVK) (.int .i64 LVN) (.string LVS))
  have HRs := hide (box_gr HR.out HL.out.2 (by omega))
  have HBs := hide (below_set hB HL.out.2 (by omega))
  have HXs := hide HL.out.1
  go_wp2_with fail
  refine (toArg_any RK RS RVK RVN RVS _).mono ?_
  clear x0 xf0 x1 xf1 x2 xf2 x3 xf3 x4 xf4 x5 xf5 x6 xf6 x7 xf7 x8 xf8 x9 xf9 x10 xf10 a6 a7 a8 a9 a10 HX HR HA hB HL
  generalize (((((w1.setCell ⟨w.heap.size + 1 + 1, 1, none⟩ (.int .i64 LK)).setCell ⟨w.heap.size + 1 + 1, 2, none⟩ (.string LS)).setCell ⟨w.heap.size + 1 + 1, 3, none⟩ (.int .i64 LVK)).setCell ⟨w.heap.size + 1 + 1, 4, none⟩ (.int .i64 LVN)).setCell ⟨w.heap.size + 1 + 1, 5, none⟩ (.string LVS)) = w2 at HRs HBs HXs
  rintro e w3 ⟨rfl, hb⟩
  have HR3 := hide (box_step HRs.out hb)
  have HX3 := hide (box_step HXs.out hb)
  have hB3 : Below w.heap.size w w3 := HBs.out.trans (hb.mono HBs.out.size)
  clear hb HRs HBs HXs
  have x0 := boxk_cell HX3.out 0 _ rfl
  have xf0 := boxk_frozen HX3.out 0
  have x1 := boxk_cell HX3.out 1 _ rfl
  have xf1 := boxk_frozen HX3.out 1
  have x2 := boxk_cell HX3.out 2 _ rfl
  have xf2 := boxk_frozen HX3.out 2
  have x3 := boxk_cell HX3.out 3 _ rfl
  have xf3 := boxk_frozen HX3.out 3
  have x4 := boxk_cell HX3.out 4 _ rfl
  have xf4 := boxk_frozen HX3.out 4
  have x5 := boxk_cell HX3.out 5 _ rfl
  have xf5 := boxk_frozen HX3.out 5
  have x6 := boxk_cell HX3.out 6 _ rfl
  have xf6 := boxk_frozen HX3.out 6
  have x7 := boxk_cell HX3.out 7 _ rfl
  have xf7 := boxk_frozen HX3.out 7
  have x8 := boxk_cell HX3.out 8 _ rfl
  have xf8 := boxk_frozen HX3.out 8
  have x9 := boxk_cell HX3.out 9 _ rfl
  have xf9 := boxk_frozen HX3.out 9
  have x10 := boxk_cell HX3.out 10 _ rfl
  have xf10 := boxk_frozen HX3.out 10
  have HX6 := hide (box11_setR HX3.out (.int .i64 RK) (.string RS) (.int .i64 RVK) (.int .i64 RVN) (.string RVS))
  have HR4 := hide (box_gr HR3.out HX6.out.2 (by omega))
  have HB4 := hide (below_set hB3 HX6.out.2 (by omega))
  have HX7 := hide HX6.out.1
  go_upto_region 5 with fail
  clear x0 xf0 x1 xf1 x2 xf2 x3 xf3 x4 xf4 x5 xf5 x6 xf6 x7 xf7 x8 xf8 x9 xf9 x10 xf10 HX6 HX3 HR3 hB3
  generalize (((((w3.setCell ⟨w.heap.size + 1 + 1, 6, none⟩ (.int .i64 RK)).setCell ⟨w.heap.size + 1 + 1, 7, none⟩ (.string RS)).setCell ⟨w.heap.size + 1 + 1, 8, none⟩ (.int .i64 RVK)).setCell ⟨w.heap.size + 1 + 1, 9, none⟩ (.int .i64 RVN)).setCell ⟨w.heap.size + 1 + 1, 10, none⟩ (.string RVS)) = w5 at HR4 HB4 HX7
  have x0 := boxk_cell HX7.out 0 _ rfl
  have r0 := boxk_cell HR4.out 0 _ rfl
  have rf0 := boxk_frozen HR4.out 0
  have x1 := boxk_cell HX7.out 1 _ rfl
  have r1 := boxk_cell HR4.out 1 _ rfl
  have rf1 := boxk_frozen HR4.out 1
  have x2 := boxk_cell HX7.out 2 _ rfl
  have r2 := boxk_cell HR4.out 2 _ rfl
  have rf2 := boxk_frozen HR4.out 2
  have x3 := boxk_cell HX7.out 3 _ rfl
  have r3 := boxk_cell HR4.out 3 _ rfl
  have rf3 := boxk_frozen HR4.out 3
  have x4 := boxk_cell HX7.out 4 _ rfl
  have r4 := boxk_cell HR4.out 4 _ rfl
  have rf4 := boxk_frozen HR4.out 4
  have x5 := boxk_cell HX7.out 5 _ rfl
  have r5 := boxk_cell HR4.out 5 _ rfl
  have rf5 := boxk_frozen HR4.out 5
  have x6 := boxk_cell HX7.out 6 _ rfl
  have r6 := boxk_cell HR4.out 6 _ rfl
  have rf6 := boxk_frozen HR4.out 6
  have x7 := boxk_cell HX7.out 7 _ rfl
  have r7 := boxk_cell HR4.out 7 _ rfl
  have rf7 := boxk_frozen HR4.out 7
  have x8 := boxk_cell HX7.out 8 _ rfl
  have r8 := boxk_cell HR4.out 8 _ rfl
  have rf8 := boxk_frozen HR4.out 8
  have x9 := boxk_cell HX7.out 9 _ rfl
  have r9 := boxk_cell HR4.out 9 _ rfl
  have rf9 := boxk_frozen HR4.out 9
  have x10 := boxk_cell HX7.out 10 _ rfl
  have r10 := boxk_cell HR4.out 10 _ rfl
  have rf10 := boxk_frozen HR4.out 10
  go_wp2
  refine box11_post HR4.out (fun w4 h4 gr => ?_)
  clear x0 r0 rf0 x1 r1 rf1 x2 r2 rf2 x3 r3 rf3 x4 r4 rf4 x5 r5 rf5 x6 r6 rf6 x7 r7 rf7 x8 r8 rf8 x9 r9 rf9 x10 r10 rf10
  have c0 := boxk_cell h4 0 _ rfl
  have c1 := boxk_cell h4 1 _ rfl
  have c2 := boxk_cell h4 2 _ rfl
  have c3 := boxk_cell h4 3 _ rfl
  have c4 := boxk_cell h4 4 _ rfl
  have c5 := boxk_cell h4 5 _ rfl
  have c6 := boxk_cell h4 6 _ rfl
  have c7 := boxk_cell h4 7 _ rfl
  have c8 := boxk_cell h4 8 _ rfl
  have c9 := boxk_cell h4 9 _ rfl
  have c10 := boxk_cell h4 10 _ rfl
  exact bodyPost_ret (v := .agg #[.string Op, .int .i64 LK, .string LS, .int .i64 LVK, .int .i64 LVN, .string LVS, .int .i64 RK, .string RS, .int .i64 RVK, .int .i64 RVN, .string RVS]) (by simp [results, Try.results106, go_sem, c0, c1, c2, c3, c4, c5, c6, c7, c8, c9, c10]) rfl ⟨rfl, below_set HB4.out gr (by omega)⟩

set_option maxRecDepth 100000 in
set_option maxHeartbeats 1600000 in
theorem szExpr_any (Op : ByteArray) (LK : Int) (LS : ByteArray) (LVK : Int) (LVN : Int) (LVS : ByteArray) (RK : Int) (RS : ByteArray) (RVK : Int) (RVN : Int) (RVS : ByteArray) (left : Int) (w : World) (so : Op.size ≤ maxLen) (s0 : LS.size ≤ maxLen) (s1 : LVS.size ≤ maxLen) (s2 : RS.size ≤ maxLen) (s3 : RVS.size ≤ maxLen) (h0 : 0 ≤ left) (h1 : left ≤ 1048576) :
    Calls Try.prog 104 #[.agg #[.string Op, .int .i64 LK, .string LS, .int .i64 LVK, .int .i64 LVN, .string LVS, .int .i64 RK, .string RS, .int .i64 RVK, .int .i64 RVN, .string RVS], .int .i64 left] w fun e w' =>
      (∃ r, e = .returned (.int .i64 r) ∧ (r = -1 ∨ (0 ≤ r ∧ r + (Op.size : Int) + (LS.size : Int) + (LVS.size : Int) + (RS.size : Int) + (RVS.size : Int) ≤ left))) ∧ Below w.heap.size w w' := by
  unfold maxLen at so
  by_cases hz : left - (Op.size : Int) < 0
  · go_enter Try.func104, Try.ntmps104
    go_wp2
    go_ret
    exact ⟨⟨-1, rfl, .inl rfl⟩, by go_grown⟩
  · go_enter Try.func104, Try.ntmps104
    go_wp2_with fail
    have b0 := below_al w (.cells #[.string Op, .int .i64 LK, .string LS, .int .i64 LVK, .int .i64 LVN, .string LVS, .int .i64 RK, .string RS, .int .i64 RVK, .int .i64 RVN, .string RVS] 155)
    have hA := boxk_new w #[.string Op, .int .i64 LK, .string LS, .int .i64 LVK, .int .i64 LVN, .string LVS, .int .i64 RK, .string RS, .int .i64 RVK, .int .i64 RVN, .string RVS] 155
    refine (szArg_any LK LS LVK LVN LVS (left - Op.size) _ s0 s1 (by omega) (by omega)).mono ?_
    rintro e w1 ⟨⟨r, rfl, hr⟩, hb1⟩
    have HA1 := hide (box_below hA hb1 (by simp))
    have hB1 : Below w.heap.size w w1 := b0.trans (hb1.mono b0.size)
    clear hb1 b0 hA
    rcases hr with rfl | ⟨h2, h3⟩
    · go_wp2
      go_ret
      exact ⟨⟨-1, rfl, .inl rfl⟩, hB1⟩
    · have H3 := hide h3
      have h4 : r ≤ 1048576 := by omega
      clear h3
      have a6 := boxk_cell HA1.out 6 _ rfl
      have a7 := boxk_cell HA1.out 7 _ rfl
      have a8 := boxk_cell HA1.out 8 _ rfl
      have a9 := boxk_cell HA1.out 9 _ rfl
      have a10 := boxk_cell HA1.out 10 _ rfl
      go_wp2_with fail
      refine (szArg_any RK RS RVK RVN RVS r _ s2 s3 h2 h4).mono ?_
      rintro e w2 ⟨⟨r2, rfl, hr2⟩, hb2⟩
      have hB2 : Below w.heap.size w w2 := hB1.trans (hb2.mono hB1.size)
      clear hb2 hB1 HA1 a6 a7 a8 a9 a10
      rcases hr2 with rfl | ⟨h5, h6⟩
      · go_wp2
        go_ret
        exact ⟨⟨-1, rfl, .inl rfl⟩, hB2⟩
      · have H6 := hide h6
        clear h6
        go_wp2
        go_ret
        have := H3.out
        have := H6.out
        exact ⟨⟨_, rfl, .inr ⟨h5, by omega⟩⟩, hB2⟩

set_option maxRecDepth 100000 in
set_option maxHeartbeats 1600000 in
theorem eqExpr_same (Op : ByteArray) (LK : Int) (LS : ByteArray) (LVK : Int) (LVN : Int) (LVS : ByteArray) (RK : Int) (RS : ByteArray) (RVK : Int) (RVN : Int) (RVS : ByteArray) (w : World) :
    Calls Try.prog 108 #[.agg #[.string Op, .int .i64 LK, .string LS, .int .i64 LVK, .int .i64 LVN, .string LVS, .int .i64 RK, .string RS, .int .i64 RVK, .int .i64 RVN, .string RVS], .agg #[.string Op, .int .i64 LK, .string LS, .int .i64 LVK, .int .i64 LVN, .string LVS, .int .i64 RK, .string RS, .int .i64 RVK, .int .i64 RVN, .string RVS]] w fun e w' => e = .returned (.bool true) ∧ Below w.heap.size w w' := by
  have kO : (Op.toList == Op.toList) = true := by simp
  go_enter Try.func108, Try.ntmps108
  go_wp2_with fail
  obtain ⟨hA, hD, b1⟩ := boxes2 w #[.string Op, .int .i64 LK, .string LS, .int .i64 LVK, .int .i64 LVN, .string LVS, .int .i64 RK, .string RS, .int .i64 RVK, .int .i64 RVN, .string RVS] #[.string Op, .int .i64 LK, .string LS, .int .i64 LVK, .int .i64 LVN, .string LVS, .int .i64 RK, .string RS, .int .i64 RVK, .int .i64 RVN, .string RVS] 104 104
  refine (eqArg_same LK LS LVK LVN LVS _).mono ?_
  rintro e w1 ⟨rfl, hb⟩
  have HA := hide (box_below hA hb (by simp; omega))
  have HD := hide (box_below hD hb (by simp))
  have hB : Below w.heap.size w w1 := b1.trans (hb.mono b1.size)
  clear hb hA hD b1
  have a6 := boxk_cell HA.out 6 _ rfl
  have d6 := boxk_cell HD.out 6 _ rfl
  have a7 := boxk_cell HA.out 7 _ rfl
  have d7 := boxk_cell HD.out 7 _ rfl
  have a8 := boxk_cell HA.out 8 _ rfl
  have d8 := boxk_cell HD.out 8 _ rfl
  have a9 := boxk_cell HA.out 9 _ rfl
  have d9 := boxk_cell HD.out 9 _ rfl
  have a10 := boxk_cell HA.out 10 _ rfl
  have d10 := boxk_cell HD.out 10 _ rfl
  go_wp2_with fail
  refine (eqArg_same RK RS RVK RVN RVS _).mono ?_
  rintro e w2 ⟨rfl, hb⟩
  have hB2 : Below w.heap.size w w2 := hB.trans (hb.mono hB.size)
  go_wp2
  go_ret
  exact ⟨rfl, hB2⟩
end Go.Proofs.Ytcfhpcbkdpgboaa
/-
  The contracts of the laws' own helpers on rows of Exprs: to copies, sz counts off, eq finds a row the same as itself.
-/
namespace Go.Proofs.Ytcfhpcbkdpgboaa
open Go.RowKit
set_option linter.unusedVariables false

set_option maxRecDepth 100000 in
set_option maxHeartbeats 3200000 in
theorem toExprS_at (a : Option Addr) (cap : Nat) (L : List X11) (w : World) (hr : RdExpr w a L) (hn : L.length ≤ 1048576) :
    Calls Try.prog 98 #[.slice a L.length cap] w fun e w' =>
      e = .returned (.slice (some ⟨w.heap.size, 0, none⟩) L.length L.length) ∧ w'.ownsRow w.heap.size 104 11 (.slice (some ⟨w.heap.size, 0, none⟩) L.length L.length) L.length (rowOf X11.cs L) ∧ Below w.heap.size w w' := by
  obtain ⟨i0, hi, hz0, hz1, hz2⟩ := info_parts Try.info104
  obtain ⟨n, hN⟩ : ∃ n, n = L.length := ⟨_, rfl⟩
  rw [← hN] at hn ⊢
  have HN := hide hN
  clear hN
  have hmade := rowOf_made (f := X11.cs) (x := X11.zero) (cs := #[.string ⟨#[]⟩, .int .i64 0, .string ⟨#[]⟩, .int .i64 0, .int .i64 0, .string ⟨#[]⟩, .int .i64 0, .string ⟨#[]⟩, .int .i64 0, .int .i64 0, .string ⟨#[]⟩]) rfl (by decide) n
  go_enter Try.func98, Try.ntmps98
  go_wp2_with (at_make; refine wpList_make_full _ rfl _ _ 86 rfl w.heap.size 104 i0 (.agg #[.string ⟨#[]⟩, .int .i64 0, .string ⟨#[]⟩, .int .i64 0, .int .i64 0, .string ⟨#[]⟩, .int .i64 0, .string ⟨#[]⟩, .int .i64 0, .int .i64 0, .string ⟨#[]⟩]) 11 Try.underlying86 hi hz0 hz1 _ _ _ _ n rfl rfl (by omega) (by omega) ?b2 ?b3 (Nat.le_refl _) ?_)
  case b2 => rw [hz2]; omega
  case b3 => unfold maxLen; omega
  intro w0 hown0 hgrow0
  have hown0' : w0.ownsRow w.heap.size 104 11 (.slice (some ⟨w.heap.size, 0, none⟩) n n) n (rowOf X11.cs (List.replicate n X11.zero)) := by rw [← hmade]; exact hown0
  clear hown0 hmade
  go_wp2
  go_loopw [4] (fun i wr => ∃ k : Nat, k ≤ n ∧ i = .int .i64 k ∧ wr.ownsRow w.heap.size 104 11 (.slice (some ⟨w.heap.size, 0, none⟩) n n) n (rowOf X11.cs (partK L X11.zero k)) ∧ Below w.heap.size w wr)
    (fun i _ => n - (intOf i).toNat)
  case atStart =>
    refine ⟨0, Nat.zero_le _, rfl, ?_, (Below.refl _ _).grown hgrow0 (Nat.le_refl _) (fun k h => by cases h)⟩
    rw [partK_zero, ← HN.out]
    exact hown0'
  case round =>
    obtain ⟨k, hk, rfl, hown, hbel⟩ := hrel
    by_cases hlt : k < n
    · obtain ⟨b, off, hab, hbw, hc⟩ := RdExpr.cells hr (by rw [← HN.out]; omega)
      obtain ⟨c0, c1, c2, c3, c4, c5, c6, c7, c8, c9, c10⟩ := hc k (by rw [← HN.out]; exact hlt)
      clear hc
      subst hab
      rw [← hbel.cell (p := ⟨b, off + k * 11, none⟩) hbw] at c0
      rw [← hbel.cell (p := ⟨b, off + k * 11 + 1, none⟩) hbw] at c1
      rw [← hbel.cell (p := ⟨b, off + k * 11 + 2, none⟩) hbw] at c2
      rw [← hbel.cell (p := ⟨b, off + k * 11 + 3, none⟩) hbw] at c3
      rw [← hbel.cell (p := ⟨b, off + k * 11 + 4, none⟩) hbw] at c4
      rw [← hbel.cell (p := ⟨b, off + k * 11 + 5, none⟩) hbw] at c5
      rw [← hbel.cell (p := ⟨b, off + k * 11 + 6, none⟩) hbw] at c6
      rw [← hbel.cell (p := ⟨b, off + k * 11 + 7, none⟩) hbw] at c7
      rw [← hbel.cell (p := ⟨b, off + k * 11 + 8, none⟩) hbw] at c8
      rw [← hbel.cell (p := ⟨b, off + k * 11 + 9, none⟩) hbw] at c9
      rw [← hbel.cell (p := ⟨b, off + k * 11 + 10, none⟩) hbw] at c10
      go_wp2_with fail
      refine (toExpr_any _ _ _ _ _ _ _ _ _ _ _ _).mono ?_
      rintro e w2 ⟨rfl, hb2⟩
      have hown2 : w2.ownsRow w.heap.size 104 11 (.slice (some ⟨w.heap.size, 0, none⟩) n n) n (rowOf X11.cs (partK L X11.zero k)) := ownsRow_below' hown hb2
      have hbel2 : Below w.heap.size w w2 := hbel.trans (hb2.mono hbel.size)
      have hlen : (rowOf X11.cs (partK L X11.zero k)).length = n * 11 := by rw [rowOf_length X11.len, partK_length (by rw [← HN.out]; omega), ← HN.out]
      have hmem : ∀ j, j < 11 → ∃ u, w2.cell? ⟨w.heap.size, k * 11 + j, none⟩ = some u := fun j hj => by
        rw [hown2.cellAt (k * 11 + j) (by omega), List.getElem?_eq_getElem (by omega)]
        exact ⟨_, rfl⟩
      obtain ⟨u0, m0⟩ := hmem 0 (by omega)
      obtain ⟨u1, m1⟩ := hmem 1 (by omega)
      obtain ⟨u2, m2⟩ := hmem 2 (by omega)
      obtain ⟨u3, m3⟩ := hmem 3 (by omega)
      obtain ⟨u4, m4⟩ := hmem 4 (by omega)
      obtain ⟨u5, m5⟩ := hmem 5 (by omega)
      obtain ⟨u6, m6⟩ := hmem 6 (by omega)
      obtain ⟨u7, m7⟩ := hmem 7 (by omega)
      obtain ⟨u8, m8⟩ := hmem 8 (by omega)
      obtain ⟨u9, m9⟩ := hmem 9 (by omega)
      obtain ⟨u10, m10⟩ := hmem 10 (by omega)
      rw [Nat.add_zero] at m0
      have f0 := hown2.frozenAt (k * 11)
      have f1 := hown2.frozenAt (k * 11 + 1)
      have f2 := hown2.frozenAt (k * 11 + 2)
      have f3 := hown2.frozenAt (k * 11 + 3)
      have f4 := hown2.frozenAt (k * 11 + 4)
      have f5 := hown2.frozenAt (k * 11 + 5)
      have f6 := hown2.frozenAt (k * 11 + 6)
      have f7 := hown2.frozenAt (k * 11 + 7)
      have f8 := hown2.frozenAt (k * 11 + 8)
      have f9 := hown2.frozenAt (k * 11 + 9)
      have f10 := hown2.frozenAt (k * 11 + 10)
      have HO := hide (((((((((((hown2.stored (k * 11) (.string (eAt L k).Op)).1.stored (k * 11 + 1) (.int .i64 (eAt L k).L.K)).1.stored (k * 11 + 2) (.string (eAt L k).L.S)).1.stored (k * 11 + 3) (.int .i64 (eAt L k).L.V.K)).1.stored (k * 11 + 4) (.int .i64 (eAt L k).L.V.N)).1.stored (k * 11 + 5) (.string (eAt L k).L.V.S)).1.stored (k * 11 + 6) (.int .i64 (eAt L k).R.K)).1.stored (k * 11 + 7) (.string (eAt L k).R.S)).1.stored (k * 11 + 8) (.int .i64 (eAt L k).R.V.K)).1.stored (k * 11 + 9) (.int .i64 (eAt L k).R.V.N)).1.stored (k * 11 + 10) (.string (eAt L k).R.V.S)).1
      have HB : Hid (Below w.heap.size w (((((((((((w2.setCell ⟨w.heap.size, k * 11, none⟩ (.string (eAt L k).Op)).setCell ⟨w.heap.size, k * 11 + 1, none⟩ (.int .i64 (eAt L k).L.K)).setCell ⟨w.heap.size, k * 11 + 2, none⟩ (.string (eAt L k).L.S)).setCell ⟨w.heap.size, k * 11 + 3, none⟩ (.int .i64 (eAt L k).L.V.K)).setCell ⟨w.heap.size, k * 11 + 4, none⟩ (.int .i64 (eAt L k).L.V.N)).setCell ⟨w.heap.size, k * 11 + 5, none⟩ (.string (eAt L k).L.V.S)).setCell ⟨w.heap.size, k * 11 + 6, none⟩ (.int .i64 (eAt L k).R.K)).setCell ⟨w.heap.size, k * 11 + 7, none⟩ (.string (eAt L k).R.S)).setCell ⟨w.heap.size, k * 11 + 8, none⟩ (.int .i64 (eAt L k).R.V.K)).setCell ⟨w.heap.size, k * 11 + 9, none⟩ (.int .i64 (eAt L k).R.V.N)).setCell ⟨w.heap.size, k * 11 + 10, none⟩ (.string (eAt L k).R.V.S))) := (((((((((((hbel2.setCell (Nat.le_refl _) _).setCell (Nat.le_refl _) _).setCell (Nat.le_refl _) _).setCell (Nat.le_refl _) _).setCell (Nat.le_refl _) _).setCell (Nat.le_refl _) _).setCell (Nat.le_refl _) _).setCell (Nat.le_refl _) _).setCell (Nat.le_refl _) _).setCell (Nat.le_refl _) _).setCell (Nat.le_refl _) _)
      rw [rowOf_set_X11 (eAt L k) _ k (by rw [partK_length (by rw [← HN.out]; omega), ← HN.out]; exact hlt), partK_set (by rw [← HN.out]; exact hlt)] at HO
      clear hmem hlen c0 c1 c2 c3 c4 c5 c6 c7 c8 c9 c10 hown hbel hb2 hown2 hbel2
      go_wp2
      go_roundw
      case rel => exact ⟨k + 1, by omega, by go_num, HO.out, HB.out⟩
      case measure => simp [intOf]; omega
    · have HE : Hid (wr.ownsRow w.heap.size 104 11 (.slice (some ⟨w.heap.size, 0, none⟩) n n) n (rowOf X11.cs L)) := by
        have hkn : k = L.length := by rw [← HN.out]; omega
        rw [hkn, partK_end] at hown
        exact hown
      clear hown
      go_wp2
      go_ret
      exact ⟨rfl, HE.out, hbel⟩

set_option maxRecDepth 100000 in
set_option maxHeartbeats 1600000 in
theorem szExprS_any (a : Option Addr) (cap : Nat) (L : List X11) (left : Int) (w : World) (hr : RdExpr w a L) (hs : ∀ x ∈ L, x.fits) (hm : L.length ≤ maxLen) (h0 : 0 ≤ left) (h1 : left ≤ 1048576) :
    Calls Try.prog 95 #[.slice a L.length cap, .int .i64 left] w fun e w' =>
      (∃ r, e = .returned (.int .i64 r) ∧ (r = -1 ∨ (0 ≤ r ∧ r + (L.length : Int) ≤ left ∧ ∀ x ∈ L, x.small))) ∧ Below w.heap.size w w' := by
  unfold maxLen at hm
  obtain ⟨n, hN⟩ : ∃ n, n = L.length := ⟨_, rfl⟩
  rw [← hN] at hm ⊢
  have HN := hide hN
  have HS := hide hs
  clear hN hs
  by_cases h2 : left - (n : Int) < 0
  · go_enter Try.func95, Try.ntmps95
    go_wp2
    go_ret
    exact ⟨⟨-1, rfl, .inl rfl⟩, Below.refl _ _⟩
  · go_enter Try.func95, Try.ntmps95
    go_wp2
    go_loopw [1, 5] (fun l i wr => ∃ (k : Nat) (lf : Int), k ≤ n ∧ i = .int .i64 k ∧ l = .int .i64 lf ∧ 0 ≤ lf ∧ lf ≤ left - n ∧ (∀ j, j < k → (eAt L j).small) ∧ Below w.heap.size w wr) (fun _ i _ => n - (intOf i).toNat)
    case atStart => exact ⟨0, left - n, Nat.zero_le _, rfl, rfl, by omega, Int.le_refl _, fun j hj => absurd hj (Nat.not_lt_zero _), Below.refl _ _⟩
    case round =>
      obtain ⟨k, lf, hk, rfl, rfl, hlf, hle, hsm, hbel⟩ := hrel
      have HSm := hide hsm
      clear hsm
      by_cases hlt : k < n
      · obtain ⟨b, off, hab, hbw, hc⟩ := RdExpr.cells hr (by rw [← HN.out]; omega)
        obtain ⟨c0, c1, c2, c3, c4, c5, c6, c7, c8, c9, c10⟩ := hc k (by rw [← HN.out]; exact hlt)
        clear hc
        subst hab
        rw [← hbel.cell (p := ⟨b, off + k * 11, none⟩) hbw] at c0
        rw [← hbel.cell (p := ⟨b, off + k * 11 + 1, none⟩) hbw] at c1
        rw [← hbel.cell (p := ⟨b, off + k * 11 + 2, none⟩) hbw] at c2
        rw [← hbel.cell (p := ⟨b, off + k * 11 + 3, none⟩) hbw] at c3
        rw [← hbel.cell (p := ⟨b, off + k * 11 + 4, none⟩) hbw] at c4
        rw [← hbel.cell (p := ⟨b, off + k * 11 + 5, none⟩) hbw] at c5
        rw [← hbel.cell (p := ⟨b, off + k * 11 + 6, none⟩) hbw] at c6
        rw [← hbel.cell (p := ⟨b, off + k * 11 + 7, none⟩) hbw] at c7
        rw [← hbel.cell (p := ⟨b, off + k * 11 + 8, none⟩) hbw] at c8
        rw [← hbel.cell (p := ⟨b, off + k * 11 + 9, none⟩) hbw] at c9
        rw [← hbel.cell (p := ⟨b, off + k * 11 + 10, none⟩) hbw] at c10
        have hS : (eAt L k).fits := by rw [eAt_in (by rw [← HN.out]; exact hlt)]; exact HS.out _ (List.getElem_mem _)
        obtain ⟨hSo, ⟨hS0, hS1⟩, hS2, hS3⟩ := hS
        go_wp2_with fail
        refine (szExpr_any _ _ _ _ _ _ _ _ _ _ _ lf _ hSo hS0 hS1 hS2 hS3 hlf (by omega)).mono ?_
        rintro e w2 ⟨⟨r, rfl, hr2⟩, hb2⟩
        have hbel2 : Below w.heap.size w w2 := hbel.trans (hb2.mono hbel.size)
        clear hb2 c0 c1 c2 c3 c4 c5 c6 c7 c8 c9 c10 hbel
        rcases hr2 with rfl | ⟨h3, h4⟩
        · go_wp2
          go_ret
          exact ⟨⟨-1, rfl, .inl rfl⟩, hbel2⟩
        · have HSk : Hid ((eAt L k).small) := ⟨by omega, ⟨by omega, by omega⟩, by omega, by omega⟩
          have h5 : r ≤ lf := by omega
          clear h4
          go_wp2
          go_roundw
          case rel => exact ⟨k + 1, r, by omega, by go_num, rfl, h3, by omega, fun j hj => by
              by_cases hjk : j = k
              · rw [hjk]; exact HSk.out
              · exact HSm.out j (by omega), hbel2⟩
          case measure => simp [intOf]; omega
      · have HAll : Hid (∀ x ∈ L, x.small) := fun x hx => by
          obtain ⟨j, hj, rfl⟩ := List.getElem_of_mem hx
          rw [← eAt_in hj]
          exact HSm.out j (by rw [← HN.out] at hj; omega)
        go_wp2
        go_ret
        exact ⟨⟨lf, rfl, .inr ⟨hlf, by omega, HAll.out⟩⟩, hbel⟩

theorem toExprS_ex (a : Option Addr) (cap : Nat) (L : List X11) (w : World) (hr : RdExpr w a L) (hn : L.length ≤ 1048576) :
    Calls Try.prog 98 #[.slice a L.length cap] w fun e w' =>
      ∃ g, e = .returned (.slice (some ⟨g, 0, none⟩) L.length L.length) ∧ w.heap.size ≤ g ∧ OwnExpr w' g L.length L ∧ Below w.heap.size w w' :=
  (toExprS_at a cap L w hr hn).mono fun e w' h => ⟨w.heap.size, h.1, Nat.le_refl _, OwnK.of X11.len (by decide) h.2.1, h.2.2⟩

theorem keepExpr {w0 W w' : World} {B : Nat} {p0 p1 p2 p3 p4 p5 p6 p7 p8 p9 p10 p11 p12 p13 p14 p15 p16 p17 p18 p19 p20 p21 : Addr} {v0 v1 v2 v3 v4 v5 v6 v7 v8 v9 v10 v11 v12 v13 v14 v15 v16 v17 v18 v19 v20 v21 : Value} (hb : Below W.heap.size W w')
    (h : W.cell? p0 = some v0 ∧ W.cell? p1 = some v1 ∧ W.cell? p2 = some v2 ∧ W.cell? p3 = some v3 ∧ W.cell? p4 = some v4 ∧ W.cell? p5 = some v5 ∧ W.cell? p6 = some v6 ∧ W.cell? p7 = some v7 ∧ W.cell? p8 = some v8 ∧ W.cell? p9 = some v9 ∧ W.cell? p10 = some v10 ∧ W.cell? p11 = some v11 ∧ W.cell? p12 = some v12 ∧ W.cell? p13 = some v13 ∧ W.cell? p14 = some v14 ∧ W.cell? p15 = some v15 ∧ W.cell? p16 = some v16 ∧ W.cell? p17 = some v17 ∧ W.cell? p18 = some v18 ∧ W.cell? p19 = some v19 ∧ W.cell? p20 = some v20 ∧ W.cell? p21 = some v21 ∧ Below B w0 W ∧ B ≤ W.heap.size) :
    w'.cell? p0 = some v0 ∧ w'.cell? p1 = some v1 ∧ w'.cell? p2 = some v2 ∧ w'.cell? p3 = some v3 ∧ w'.cell? p4 = some v4 ∧ w'.cell? p5 = some v5 ∧ w'.cell? p6 = some v6 ∧ w'.cell? p7 = some v7 ∧ w'.cell? p8 = some v8 ∧ w'.cell? p9 = some v9 ∧ w'.cell? p10 = some v10 ∧ w'.cell? p11 = some v11 ∧ w'.cell? p12 = some v12 ∧ w'.cell? p13 = some v13 ∧ w'.cell? p14 = some v14 ∧ w'.cell? p15 = some v15 ∧ w'.cell? p16 = some v16 ∧ w'.cell? p17 = some v17 ∧ w'.cell? p18 = some v18 ∧ w'.cell? p19 = some v19 ∧ w'.cell? p20 = some v20 ∧ w'.cell? p21 = some v21 ∧ Below B w0 w' ∧ B ≤ w'.heap.size := by
  obtain ⟨q0, q1, q2, q3, q4, q5, q6, q7, q8, q9, q10, q11, q12, q13, q14, q15, q16, q17, q18, q19, q20, q21, h6, h7⟩ := h
  have k : ∀ {a : Addr} {v : Value}, W.cell? a = some v → w'.cell? a = some v := fun {a v} h => by rw [hb.cell (World.block_lt_of_cell? W _ h)]; exact h
  exact ⟨k q0, k q1, k q2, k q3, k q4, k q5, k q6, k q7, k q8, k q9, k q10, k q11, k q12, k q13, k q14, k q15, k q16, k q17, k q18, k q19, k q20, k q21, h6.trans (hb.mono h7), Nat.le_trans h7 hb.size⟩
set_option maxRecDepth 100000 in
set_option maxHeartbeats 3200000 in
theorem eqExprS_same (a b : Option Addr) (ca cb : Nat) (L : List X11) (w : World) (hr : RdExpr w a L) (hq : RdExpr w b L) (hm : L.length ≤ 2097152) :
    Calls Try.prog 101 #[.slice a L.length ca, .slice b L.length cb] w fun e w' =>
      e = .returned (.bool true) ∧ Below w.heap.size w w' := by
  obtain ⟨n, hN⟩ : ∃ n, n = L.length := ⟨_, rfl⟩
  rw [← hN] at hm ⊢
  have HN := hide hN
  clear hN
  have hnn : ((n : Int) != (n : Int)) = false := by simp
  go_enter Try.func101, Try.ntmps101
  go_wp2
  go_loopw [5] (fun i wr => ∃ (k : Nat), k ≤ n ∧ i = .int .i64 k ∧ Below w.heap.size w wr) (fun i _ => n - (intOf i).toNat)
  case atStart => exact ⟨0, Nat.zero_le _, rfl, Below.refl _ _⟩
  case round =>
    obtain ⟨k, hk, rfl, hbel⟩ := hrel
    by_cases hlt : k < n
    · obtain ⟨b1, o1, e1, hbw1, hc1⟩ := RdExpr.cells hr (by rw [← HN.out]; omega)
      obtain ⟨b2, o2, e2, hbw2, hc2⟩ := RdExpr.cells hq (by rw [← HN.out]; omega)
      obtain ⟨c0, c1, c2, c3, c4, c5, c6, c7, c8, c9, c10⟩ := hc1 k (by rw [← HN.out]; exact hlt)
      obtain ⟨d0, d1, d2, d3, d4, d5, d6, d7, d8, d9, d10⟩ := hc2 k (by rw [← HN.out]; exact hlt)
      clear hc1 hc2
      subst e1 e2
      rw [← hbel.cell (p := ⟨b1, o1 + k * 11, none⟩) hbw1] at c0
      rw [← hbel.cell (p := ⟨b2, o2 + k * 11, none⟩) hbw2] at d0
      rw [← hbel.cell (p := ⟨b1, o1 + k * 11 + 1, none⟩) hbw1] at c1
      rw [← hbel.cell (p := ⟨b2, o2 + k * 11 + 1, none⟩) hbw2] at d1
      rw [← hbel.cell (p := ⟨b1, o1 + k * 11 + 2, none⟩) hbw1] at c2
      rw [← hbel.cell (p := ⟨b2, o2 + k * 11 + 2, none⟩) hbw2] at d2
      rw [← hbel.cell (p := ⟨b1, o1 + k * 11 + 3, none⟩) hbw1] at c3
      rw [← hbel.cell (p := ⟨b2, o2 + k * 11 + 3, none⟩) hbw2] at d3
      rw [← hbel.cell (p := ⟨b1, o1 + k * 11 + 4, none⟩) hbw1] at c4
      rw [← hbel.cell (p := ⟨b2, o2 + k * 11 + 4, none⟩) hbw2] at d4
      rw [← hbel.cell (p := ⟨b1, o1 + k * 11 + 5, none⟩) hbw1] at c5
      rw [← hbel.cell (p := ⟨b2, o2 + k * 11 + 5, none⟩) hbw2] at d5
      rw [← hbel.cell (p := ⟨b1, o1 + k * 11 + 6, none⟩) hbw1] at c6
      rw [← hbel.cell (p := ⟨b2, o2 + k * 11 + 6, none⟩) hbw2] at d6
      rw [← hbel.cell (p := ⟨b1, o1 + k * 11 + 7, none⟩) hbw1] at c7
      rw [← hbel.cell (p := ⟨b2, o2 + k * 11 + 7, none⟩) hbw2] at d7
      rw [← hbel.cell (p := ⟨b1, o1 + k * 11 + 8, none⟩) hbw1] at c8
      rw [← hbel.cell (p := ⟨b2, o2 + k * 11 + 8, none⟩) hbw2] at d8
      rw [← hbel.cell (p := ⟨b1, o1 + k * 11 + 9, none⟩) hbw1] at c9
      rw [← hbel.cell (p := ⟨b2, o2 + k * 11 + 9, none⟩) hbw2] at d9
      rw [← hbel.cell (p := ⟨b1, o1 + k * 11 + 10, none⟩) hbw1] at c10
      rw [← hbel.cell (p := ⟨b2, o2 + k * 11 + 10, none⟩) hbw2] at d10
      generalize (eAt L k).Op = Op at c0 d0
      generalize (eAt L k).L.K = LK at c1 d1
      generalize (eAt L k).L.S = LS at c2 d2
      generalize (eAt L k).L.V.K = LVK at c3 d3
      generalize (eAt L k).L.V.N = LVN at c4 d4
      generalize (eAt L k).L.V.S = LVS at c5 d5
      generalize (eAt L k).R.K = RK at c6 d6
      generalize (eAt L k).R.S = RS at c7 d7
      generalize (eAt L k).R.V.K = RVK at c8 d8
      generalize (eAt L k).R.V.N = RVN at c9 d9
      generalize (eAt L k).R.V.S = RVS at c10 d10
      go_wp2_with fail
      go_region_held3 (fun W => W.cell? ⟨b1, o1 + k * 11, none⟩ = some (.string Op) ∧ W.cell? ⟨b1, o1 + k * 11 + 1, none⟩ = some (.int .i64 LK) ∧ W.cell? ⟨b1, o1 + k * 11 + 2, none⟩ = some (.string LS) ∧ W.cell? ⟨b1, o1 + k * 11 + 3, none⟩ = some (.int .i64 LVK) ∧ W.cell? ⟨b1, o1 + k * 11 + 4, none⟩ = some (.int .i64 LVN) ∧ W.cell? ⟨b1, o1 + k * 11 + 5, none⟩ = some (.string LVS) ∧ W.cell? ⟨b1, o1 + k * 11 + 6, none⟩ = some (.int .i64 RK) ∧ W.cell? ⟨b1, o1 + k * 11 + 7, none⟩ = some (.string RS) ∧ W.cell? ⟨b1, o1 + k * 11 + 8, none⟩ = some (.int .i64 RVK) ∧ W.cell? ⟨b1, o1 + k * 11 + 9, none⟩ = some (.int .i64 RVN) ∧ W.cell? ⟨b1, o1 + k * 11 + 10, none⟩ = some (.string RVS) ∧ W.cell? ⟨b2, o2 + k * 11, none⟩ = some (.string Op) ∧ W.cell? ⟨b2, o2 + k * 11 + 1, none⟩ = some (.int .i64 LK) ∧ W.cell? ⟨b2, o2 + k * 11 + 2, none⟩ = some (.string LS) ∧ W.cell? ⟨b2, o2 + k * 11 + 3, none⟩ = some (.int .i64 LVK) ∧ W.cell? ⟨b2, o2 + k * 11 + 4, none⟩ = some (.int .i64 LVN) ∧ W.cell? ⟨b2, o2 + k * 11 + 5, none⟩ = some (.string LVS) ∧ W.cell? ⟨b2, o2 + k * 11 + 6, none⟩ = some (.int .i64 RK) ∧ W.cell? ⟨b2, o2 + k * 11 + 7, none⟩ = some (.string RS) ∧ W.cell? ⟨b2, o2 + k * 11 + 8, none⟩ = some (.int .i64 RVK) ∧ W.cell? ⟨b2, o2 + k * 11 + 9, none⟩ = some (.int .i64 RVN) ∧ W.cell? ⟨b2, o2 + k * 11 + 10, none⟩ = some (.string RVS) ∧ Below w.heap.size w W ∧ w.heap.size ≤ W.heap.size) (first | exact ⟨c0, c1, c2, c3, c4, c5, c6, c7, c8, c9, c10, d0, d1, d2, d3, d4, d5, d6, d7, d8, d9, d10, hbel.drew, hbel.size⟩ | exact keepExpr (by assumption) (by assumption))
        (first | (go_at_call 108; refine (eqExpr_same _ _ _ _ _ _ _ _ _ _ _ _).mono ?_; rintro e w2 ⟨rfl, hb⟩))
      all_goals
        obtain ⟨-, -, -, -, -, -, -, -, -, -, -, -, -, -, -, -, -, -, -, -, -, -, hB2, -⟩ : w2.cell? ⟨b1, o1 + k * 11, none⟩ = some (.string Op) ∧ w2.cell? ⟨b1, o1 + k * 11 + 1, none⟩ = some (.int .i64 LK) ∧ w2.cell? ⟨b1, o1 + k * 11 + 2, none⟩ = some (.string LS) ∧ w2.cell? ⟨b1, o1 + k * 11 + 3, none⟩ = some (.int .i64 LVK) ∧ w2.cell? ⟨b1, o1 + k * 11 + 4, none⟩ = some (.int .i64 LVN) ∧ w2.cell? ⟨b1, o1 + k * 11 + 5, none⟩ = some (.string LVS) ∧ w2.cell? ⟨b1, o1 + k * 11 + 6, none⟩ = some (.int .i64 RK) ∧ w2.cell? ⟨b1, o1 + k * 11 + 7, none⟩ = some (.string RS) ∧ w2.cell? ⟨b1, o1 + k * 11 + 8, none⟩ = some (.int .i64 RVK) ∧ w2.cell? ⟨b1, o1 + k * 11 + 9, none⟩ = some (.int .i64 RVN) ∧ w2.cell? ⟨b1, o1 + k * 11 + 10, none⟩ = some (.string RVS) ∧ w2.cell? ⟨b2, o2 + k * 11, none⟩ = some (.string Op) ∧ w2.cell? ⟨b2, o2 + k * 11 + 1, none⟩ = some (.int .i64 LK) ∧ w2.cell? ⟨b2, o2 + k * 11 + 2, none⟩ = some (.string LS) ∧ w2.cell? ⟨b2, o2 + k * 11 + 3, none⟩ = some (.int .i64 LVK) ∧ w2.cell? ⟨b2, o2 + k * 11 + 4, none⟩ = some (.int .i64 LVN) ∧ w2.cell? ⟨b2, o2 + k * 11 + 5, none⟩ = some (.string LVS) ∧ w2.cell? ⟨b2, o2 + k * 11 + 6, none⟩ = some (.int .i64 RK) ∧ w2.cell? ⟨b2, o2 + k * 11 + 7, none⟩ = some (.string RS) ∧ w2.cell? ⟨b2, o2 + k * 11 + 8, none⟩ = some (.int .i64 RVK) ∧ w2.cell? ⟨b2, o2 + k * 11 + 9, none⟩ = some (.int .i64 RVN) ∧ w2.cell? ⟨b2, o2 + k * 11 + 10, none⟩ = some (.string RVS) ∧ Below w.heap.size w w2 ∧ w.heap.size ≤ w2.heap.size := by assumption
        go_wp2
        go_roundw
        case rel => exact ⟨k + 1, by omega, by go_num, hB2⟩
        case measure => simp [intOf]; omega
    · go_wp2
      go_ret
      exact ⟨rfl, hbel⟩
end Go.Proofs.Ytcfhpcbkdpgboaa
/-
  The contracts of the laws' own helpers on acts: toAct copies, szAct counts off, eqAct finds an act the same as itself.
-/
namespace Go.Proofs.Ytcfhpcbkdpgboaa
open Go.RowKit
set_option linter.unusedVariables false

set_option maxRecDepth 100000 in
set_option maxHeartbeats 3200000 in
theorem toAct_any (K : Int) (nm : ByteArray) (a : Option Addr) (cap : Nat) (L : List X11) (N : Int) (un : ByteArray) (w : World) (hr : RdExpr w a L) (hn : L.length ≤ 1048576) :
    Calls Try.prog 82 #[.agg #[.int .i64 K, .string nm, .slice a L.length cap, .int .i64 N, .string un]] w fun e w' =>
      ∃ g, e = .returned (.agg #[.int .i64 K, .string nm, .slice (some ⟨g, 0, none⟩) L.length L.length, .int .i64 N, .string un]) ∧ w.heap.size ≤ g ∧ OwnExpr w' g L.length L ∧ Below w.heap.size w w' := by
  go_enter Try.func82, Try.ntmps82
  go_wp2_with fail
  obtain ⟨hA, hR, hX, b2⟩ := boxes3 w #[.int .i64 K, .string nm, .slice a L.length cap, .int .i64 N, .string un] #[.int .i64 0, .string ⟨#[]⟩, .slice none 0 0, .int .i64 0, .string ⟨#[]⟩] #[.int .i64 K, .string nm, .slice none 0 0, .int .i64 0, .string ⟨#[]⟩] 131 88 88
  refine (toExprS_at a cap L _ (hr.below b2) hn).mono ?_
  rintro e w1 ⟨rfl, ho, hb⟩
  have HA := hide (box_below hA hb (by simp; omega))
  have HR := hide (box_below hR hb (by simp))
  have HX := hide (box_below hX hb (by simp))
  have hB : Below w.heap.size w w1 := b2.trans (hb.mono b2.size)
  have hO : OwnExpr w1 _ _ L := OwnK.of X11.len (by decide) ho
  clear ho hb hR hX hA b2
  simp only [World.size_alloc] at hO ⊢
  have p3 := boxk_cell HA.out 3 _ rfl
  have p4 := boxk_cell HA.out 4 _ rfl
  have x0 := boxk_cell HX.out 0 _ rfl
  have x1 := boxk_cell HX.out 1 _ rfl
  have x2 := boxk_cell HX.out 2 _ rfl
  have x3 := boxk_cell HX.out 3 _ rfl
  have x4 := boxk_cell HX.out 4 _ rfl
  have xf2 := boxk_frozen HX.out 2
  have xf3 := boxk_frozen HX.out 3
  have xf4 := boxk_frozen HX.out 4
  have r0 := boxk_cell HR.out 0 _ rfl
  have r1 := boxk_cell HR.out 1 _ rfl
  have r2 := boxk_cell HR.out 2 _ rfl
  have r3 := boxk_cell HR.out 3 _ rfl
  have r4 := boxk_cell HR.out 4 _ rfl
  have rf0 := boxk_frozen HR.out 0
  have rf1 := boxk_frozen HR.out 1
  have rf2 := boxk_frozen HR.out 2
  have rf3 := boxk_frozen HR.out 3
  have rf4 := boxk_frozen HR.out 4
  have HX2 := hide (boxk_set HX.out 2 (.slice (some ⟨w.heap.size + 1 + 1 + 1, 0, none⟩) L.length L.length))
  have HX3 := hide (boxk_set HX2.out.1 3 (.int .i64 N))
  have HX4 := hide (boxk_set HX3.out.1 4 (.string un))
  have HR2 := hide (box_gr (box_gr (box_gr HR.out HX2.out.2 (by omega)) HX3.out.2 (by omega)) HX4.out.2 (by omega))
  have HB2 := hide (below_set (below_set (below_set hB HX2.out.2 (by omega)) HX3.out.2 (by omega)) HX4.out.2 (by omega))
  have hz := hO.lt
  have HO2 := hide (((hO.grown HX2.out.2 (by omega)).grown HX3.out.2 (by omega)).grown HX4.out.2 (by omega))
  clear hO hB
  go_wp2
  refine box5_post HR2.out (fun w4 h4 gr => ?_)
  clear x0 x1 x2 x3 x4 xf2 xf3 xf4 r0 r1 r2 r3 r4 rf0 rf1 rf2 rf3 rf4 p3 p4
  have c0 := boxk_cell h4 0 _ rfl
  have c1 := boxk_cell h4 1 _ rfl
  have c2 := boxk_cell h4 2 _ rfl
  have c3 := boxk_cell h4 3 _ rfl
  have c4 := boxk_cell h4 4 _ rfl
  exact bodyPost_ret (v := .agg #[.int .i64 K, .string nm, .slice (some ⟨w.heap.size + 1 + 1 + 1, 0, none⟩) L.length L.length, .int .i64 N, .string un]) (by simp [results, Try.results82, go_sem, c0, c1, c2, c3, c4]) rfl
    ⟨_, rfl, by omega, HO2.out.grown gr (by omega), below_set HB2.out gr (by omega)⟩

set_option maxRecDepth 100000 in
set_option maxHeartbeats 1600000 in
theorem szAct_any (K : Int) (nm : ByteArray) (a : Option Addr) (cap : Nat) (L : List X11) (N : Int) (un : ByteArray) (left : Int) (w : World) (hkd : nm.size ≤ maxLen) (hun : un.size ≤ maxLen) (hr : RdExpr w a L) (hs : ∀ x ∈ L, x.fits) (hm : L.length ≤ maxLen) (h0 : 0 ≤ left) (h1 : left ≤ 1048576) :
    Calls Try.prog 79 #[.agg #[.int .i64 K, .string nm, .slice a L.length cap, .int .i64 N, .string un], .int .i64 left] w fun e w' =>
      (∃ r, e = .returned (.int .i64 r) ∧ (r = -1 ∨ (0 ≤ r ∧ r + (nm.size : Int) + (L.length : Int) + (un.size : Int) ≤ left ∧ ∀ x ∈ L, x.small))) ∧ Below w.heap.size w w' := by
  unfold maxLen at hkd hun
  by_cases h2 : left - (nm.size : Int) < 0
  · go_enter Try.func79, Try.ntmps79
    go_wp2
    go_ret
    exact ⟨⟨-1, rfl, .inl rfl⟩, by go_grown⟩
  · have b0 := below_al w (.cells #[.int .i64 K, .string nm, .slice a L.length cap, .int .i64 N, .string un] 131)
    have hA := boxk_new w #[.int .i64 K, .string nm, .slice a L.length cap, .int .i64 N, .string un] 131
    go_enter Try.func79, Try.ntmps79
    go_wp2_with fail
    refine (szExprS_any a cap L (left - nm.size) _ (hr.below b0) hs hm (by omega) (by omega)).mono ?_
    rintro e w1 ⟨⟨r, rfl, hr1⟩, hb1⟩
    have hB1 : Below w.heap.size w w1 := b0.trans (hb1.mono b0.size)
    have HA1 := hide (box_step hA hb1)
    clear hb1 b0 hA
    rcases hr1 with rfl | ⟨hr2, hr3, hsm⟩
    · go_wp2
      go_ret
      exact ⟨⟨-1, rfl, .inl rfl⟩, hB1⟩
    · have HSm := hide hsm
      clear hsm
      have a4 := boxk_cell HA1.out 4 _ rfl
      by_cases h3 : r - (un.size : Int) < 0
      · go_wp2
        go_ret
        exact ⟨⟨-1, rfl, .inl rfl⟩, hB1⟩
      · go_wp2
        go_ret
        exact ⟨⟨r - un.size, rfl, .inr ⟨by omega, by omega, HSm.out⟩⟩, hB1⟩

set_option maxRecDepth 100000 in
set_option maxHeartbeats 1600000 in
theorem eqAct_same (K : Int) (nm : ByteArray) (a b : Option Addr) (ca cb : Nat) (L : List X11) (N : Int) (un : ByteArray) (w : World) (hr : RdExpr w a L) (hq : RdExpr w b L) (hn : L.length ≤ 1048580) :
    Calls Try.prog 85 #[.agg #[.int .i64 K, .string nm, .slice a L.length ca, .int .i64 N, .string un], .agg #[.int .i64 K, .string nm, .slice b L.length cb, .int .i64 N, .string un]] w fun e w' =>
      e = .returned (.bool true) ∧ Below w.heap.size w w' := by
  have k0 : (K != K) = false := by simp
  have k1 : (nm.toList == nm.toList) = true := by simp
  have k2 : (N != N) = false := by simp
  have k3 : (un.toList == un.toList) = true := by simp
  go_enter Try.func85, Try.ntmps85
  go_wp2_with fail
  obtain ⟨hP, hQ, b1⟩ := boxes2 w #[.int .i64 K, .string nm, .slice a L.length ca, .int .i64 N, .string un] #[.int .i64 K, .string nm, .slice b L.length cb, .int .i64 N, .string un] 88 88
  refine (eqExprS_same a b ca cb L _ (hr.below b1) (hq.below b1) (by omega)).mono ?_
  rintro e w1 ⟨rfl, hb⟩
  have hB : Below w.heap.size w w1 := b1.trans (hb.mono b1.size)
  have p3 := boxk_cell (box_step hP hb) 3 _ rfl
  have q3 := boxk_cell (box_step hQ hb) 3 _ rfl
  have p4 := boxk_cell (box_step hP hb) 4 _ rfl
  have q4 := boxk_cell (box_step hQ hb) 4 _ rfl
  clear hP hQ hb
  go_wp2
  go_ret
  exact ⟨rfl, hB⟩
/-- what two lists of terms read as, on the way -/
def TwoX (w0 : World) (B : Nat) (a b : Option Addr) (L : List X11) (W : World) : Prop := RdExpr W a L ∧ RdExpr W b L ∧ Below B w0 W ∧ B ≤ W.heap.size
theorem TwoX.keep {w0 W w' : World} {B : Nat} {a b : Option Addr} {L : List X11} (h : TwoX w0 B a b L W) (hb : Below W.heap.size W w') : TwoX w0 B a b L w' :=
  ⟨h.1.below hb, h.2.1.below hb, h.2.2.1.trans (hb.mono h.2.2.2), Nat.le_trans h.2.2.2 hb.size⟩
theorem TwoX.drew {w0 W : World} {B : Nat} {a b : Option Addr} {L : List X11} (h : TwoX w0 B a b L W) : TwoX w0 B a b L W.drew :=
  ⟨h.1.heap rfl, h.2.1.heap rfl, h.2.2.1.drew, h.2.2.2⟩
theorem keepX {w0 W w' : World} {B : Nat} {p0 p1 p2 p3 p4 p5 p6 p7 p8 p9 : Addr} {v0 v1 v2 v3 v4 v5 v6 v7 v8 v9 : Value} {a b : Option Addr} {L : List X11} (hb : Below W.heap.size W w')
    (h : W.cell? p0 = some v0 ∧ W.cell? p1 = some v1 ∧ W.cell? p2 = some v2 ∧ W.cell? p3 = some v3 ∧ W.cell? p4 = some v4 ∧ W.cell? p5 = some v5 ∧ W.cell? p6 = some v6 ∧ W.cell? p7 = some v7 ∧ W.cell? p8 = some v8 ∧ W.cell? p9 = some v9 ∧ TwoX w0 B a b L W) :
    w'.cell? p0 = some v0 ∧ w'.cell? p1 = some v1 ∧ w'.cell? p2 = some v2 ∧ w'.cell? p3 = some v3 ∧ w'.cell? p4 = some v4 ∧ w'.cell? p5 = some v5 ∧ w'.cell? p6 = some v6 ∧ w'.cell? p7 = some v7 ∧ w'.cell? p8 = some v8 ∧ w'.cell? p9 = some v9 ∧ TwoX w0 B a b L w' := by
  obtain ⟨h0, h1, h2, h3, h4, h5, h6, h7, h8, h9, h10⟩ := h
  have k : ∀ {a : Addr} {v : Value}, W.cell? a = some v → w'.cell? a = some v := fun {a v} h => by rw [hb.cell (World.block_lt_of_cell? W _ h)]; exact h
  exact ⟨k h0, k h1, k h2, k h3, k h4, k h5, k h6, k h7, k h8, k h9, h10.keep hb⟩
theorem rdXA {w0 W : World} {B : Nat} {p0 p1 p2 p3 p4 p5 p6 p7 p8 p9 : Addr} {v0 v1 v2 v3 v4 v5 v6 v7 v8 v9 : Value} {a b : Option Addr} {L : List X11}
    (h : W.cell? p0 = some v0 ∧ W.cell? p1 = some v1 ∧ W.cell? p2 = some v2 ∧ W.cell? p3 = some v3 ∧ W.cell? p4 = some v4 ∧ W.cell? p5 = some v5 ∧ W.cell? p6 = some v6 ∧ W.cell? p7 = some v7 ∧ W.cell? p8 = some v8 ∧ W.cell? p9 = some v9 ∧ TwoX w0 B a b L W) : RdExpr W a L := h.2.2.2.2.2.2.2.2.2.2.1
theorem rdXB {w0 W : World} {B : Nat} {p0 p1 p2 p3 p4 p5 p6 p7 p8 p9 : Addr} {v0 v1 v2 v3 v4 v5 v6 v7 v8 v9 : Value} {a b : Option Addr} {L : List X11}
    (h : W.cell? p0 = some v0 ∧ W.cell? p1 = some v1 ∧ W.cell? p2 = some v2 ∧ W.cell? p3 = some v3 ∧ W.cell? p4 = some v4 ∧ W.cell? p5 = some v5 ∧ W.cell? p6 = some v6 ∧ W.cell? p7 = some v7 ∧ W.cell? p8 = some v8 ∧ W.cell? p9 = some v9 ∧ TwoX w0 B a b L W) : RdExpr W b L := h.2.2.2.2.2.2.2.2.2.2.2.1
end Go.Proofs.Ytcfhpcbkdpgboaa
/-
  The contracts of the laws' own helpers on rows of Acts: sz counts off, to copies, eq finds a row the same as its like.
-/
namespace Go.Proofs.Ytcfhpcbkdpgboaa
open Go.RowKit
set_option linter.unusedVariables false

theorem Try.info88D : (Try.prog.info? 88).map (fun i => (i.zero, i.size, i.bytes)) = some (some (.agg #[.int .i64 0, .string ⟨#[]⟩, .slice none 0 0, .int .i64 0, .string ⟨#[]⟩]), 5, 72) := by kernel_rfl

set_option maxRecDepth 100000 in
set_option maxHeartbeats 1600000 in
theorem szActS_any (a : Option Addr) (cap : Nat) (J : List QE) (left : Int) (w : World) (hr : RdActS w a J) (hs : ∀ x ∈ J, x.ok) (hm : J.length ≤ maxLen) (h0 : 0 ≤ left) (h1 : left ≤ 1048576) :
    Calls Try.prog 56 #[.slice a J.length cap, .int .i64 left] w fun e w' =>
      (∃ r, e = .returned (.int .i64 r) ∧ (r = -1 ∨ (0 ≤ r ∧ r + ((J.length + (J.map QE.sz).sum : Nat) : Int) ≤ left ∧ ∀ x ∈ J, x.small))) ∧ Below w.heap.size w w' := by
  unfold maxLen at hm
  obtain ⟨n, hN⟩ : ∃ n, n = J.length := ⟨_, rfl⟩
  rw [← hN] at hm ⊢
  have HN := hide hN
  have HS := hide hs
  clear hN hs
  by_cases h2 : left - (n : Int) < 0
  · go_enter Try.func56, Try.ntmps56
    go_wp2
    go_ret
    exact ⟨⟨-1, rfl, .inl rfl⟩, Below.refl _ _⟩
  · go_enter Try.func56, Try.ntmps56
    go_wp2
    go_loopw [1, 5] (fun l i wr => ∃ (k : Nat) (lf : Int), k ≤ n ∧ i = .int .i64 k ∧ l = .int .i64 lf ∧ 0 ≤ lf ∧ lf + (totW QE.sz J k : Int) ≤ left - n ∧ (∀ j, j < k → (eAt J j).small) ∧ Below w.heap.size w wr) (fun _ i _ => n - (intOf i).toNat)
    case atStart => exact ⟨0, left - n, Nat.zero_le _, rfl, rfl, by omega, by rw [totW_zero]; simp, fun j hj => absurd hj (Nat.not_lt_zero _), Below.refl _ _⟩
    case round =>
      obtain ⟨k, lf, hk, rfl, rfl, hlf, hsum, hsm, hbel⟩ := hrel
      have HSm := hide hsm
      clear hsm
      by_cases hlt : k < n
      · obtain ⟨b, off, hab, hbw, hc⟩ := hr.cells (by rw [← HN.out]; omega)
        obtain ⟨c0, c1, c2, c3, c4, hv⟩ := hc k (by rw [← HN.out]; exact hlt)
        have HV := hide (hv.below (hbel.mono (Nat.le_refl _)))
        clear hc hv
        subst hab
        rw [← hbel.cell (p := ⟨b, off + k * 5, none⟩) hbw] at c0
        rw [← hbel.cell (p := ⟨b, off + k * 5 + 1, none⟩) hbw] at c1
        rw [← hbel.cell (p := ⟨b, off + k * 5 + 2, none⟩) hbw] at c2
        rw [← hbel.cell (p := ⟨b, off + k * 5 + 3, none⟩) hbw] at c3
        rw [← hbel.cell (p := ⟨b, off + k * 5 + 4, none⟩) hbw] at c4
        have HK : Hid ((eAt J k).ok) := by unfold Hid; rw [eAt_in (by rw [← HN.out]; exact hlt)]; exact HS.out _ (List.getElem_mem _)
        have hst := totW_step (wt := QE.sz) (K := J) (j := k) (by rw [← HN.out]; exact hlt)
        have HSx : Hid ((eAt J k).small → ∀ j, j < k + 1 → (eAt J j).small) := fun hx j hj => by
          by_cases hjk : j = k
          · rw [hjk]; exact hx
          · exact HSm.out j (by omega)
        generalize eAt J k = x at c0 c1 c2 c3 c4 HV HK hst HSx
        obtain ⟨x0, x1, va, vc, L, x3, x4⟩ := x
        rw [show QE.sz ⟨x0, x1, va, vc, L, x3, x4⟩ = x1.size + L.length + x4.size from rfl] at hst
        simp only at c0 c1 c2 c3 c4 HV HK HSx
        unfold QE.ok at HK
        go_wp2_with fail
        refine (szAct_any x0 x1 va vc L x3 x4 lf _ HK.out.1 HK.out.2.1 HV.out HK.out.2.2.2 HK.out.2.2.1 hlf (by omega)).mono ?_
        rintro e w2 ⟨⟨r, rfl, hr1⟩, hb2⟩
        have hbel2 : Below w.heap.size w w2 := hbel.trans (hb2.mono hbel.size)
        clear hb2 c0 c1 c2 c3 c4 hbel
        rcases hr1 with rfl | ⟨hr2, hr3, hr4⟩
        · go_wp2
          go_ret
          exact ⟨⟨-1, rfl, .inl rfl⟩, hbel2⟩
        · have HR : Hid (r + (totW QE.sz J (k + 1) : Int) ≤ left - n) := by unfold Hid; rw [hst]; omega
          have HY := hide (HSx.out ⟨by show x1.size ≤ 1048576; omega, by show x4.size ≤ 1048576; omega, by show L.length ≤ 1048576; omega, hr4⟩)
          have h3 : ¬ (r < 0) := by omega
          clear hr3 hr4 hst hsum HSx
          go_wp2
          go_roundw
          case rel => exact ⟨k + 1, r, by omega, by go_num, rfl, hr2, HR.out, HY.out, hbel2⟩
          case measure => simp [intOf]; omega
      · have HK : Hid (lf + ((n + (J.map QE.sz).sum : Nat) : Int) ≤ left) := by
          unfold Hid
          have hkn : k = J.length := by rw [← HN.out]; omega
          rw [hkn, totW_end] at hsum
          omega
        have HAll : Hid (∀ x ∈ J, x.small) := fun x hx => by
          obtain ⟨j, hj, rfl⟩ := List.getElem_of_mem hx
          rw [← eAt_in hj]
          exact HSm.out j (by rw [← HN.out] at hj; omega)
        clear hsum
        go_wp2
        go_ret
        exact ⟨⟨lf, rfl, .inr ⟨hlf, HK.out, HAll.out⟩⟩, hbel⟩

set_option maxRecDepth 100000 in
set_option maxHeartbeats 3200000 in
theorem toActS_any (a : Option Addr) (cap : Nat) (J : List QE) (w : World) (hr : RdActS w a J) (hn : J.length ≤ 1048576) (hl : ∀ x ∈ J, x.L.length ≤ 1048576) :
    Calls Try.prog 59 #[.slice a J.length cap] w fun e w' =>
      ∃ K g, e = .returned (.slice (some ⟨g, 0, none⟩) J.length J.length) ∧ OwnActS w' w.heap.size w'.heap.size g J.length K K.length ∧ K.map QE.pl = J.map QE.pl ∧ Below w.heap.size w w' := by
  obtain ⟨i0, hi, hz0, hz1, hz2⟩ := info_parts Try.info88D
  obtain ⟨n, hN⟩ : ∃ n, n = J.length := ⟨_, rfl⟩
  rw [← hN] at hn ⊢
  have HN := hide hN
  have HL := hide hl
  clear hN hl
  go_enter Try.func59, Try.ntmps59
  go_wp2_with (at_make; refine wpList_make_full _ rfl _ _ 38 rfl w.heap.size 88 i0 (.agg #[.int .i64 0, .string ⟨#[]⟩, .slice none 0 0, .int .i64 0, .string ⟨#[]⟩]) 5 Try.underlying38 hi hz0 hz1 _ _ _ _ n rfl rfl (by omega) (by omega) ?b2 ?b3 (Nat.le_refl _) ?_)
  case b2 => rw [hz2]; omega
  case b3 => unfold maxLen; omega
  intro w0 hown0 hgrow0
  have hmd : (madeCells #[.int .i64 0, .string ⟨#[]⟩, .slice none 0 0, .int .i64 0, .string ⟨#[]⟩] (n * 5)).toList = rowOf QE.cs (List.replicate n QE.zero) := rowOf_made (x := QE.zero) (cs := #[.int .i64 0, .string ⟨#[]⟩, .slice none 0 0, .int .i64 0, .string ⟨#[]⟩]) rfl (by decide) n
  rw [hmd] at hown0
  clear hmd
  have hs0 : w.heap.size < w0.heap.size := (hown0.lt w.heap.size rfl).2
  have hb0 : Below w.heap.size w w0 := (Below.refl _ _).grown hgrow0 (Nat.le_refl _) (fun k h => by cases h)
  have hO0 : OwnActS w0 w.heap.size w0.heap.size w.heap.size n (List.replicate n QE.zero) 0 := OwnD.zero (OwnK.of QE.len (by decide) hown0) (Nat.le_refl _) (Nat.le_refl _) hs0
  clear hown0 hgrow0
  go_wp2
  go_loopw [4] (fun i wr => ∃ (k : Nat) (K : List QE), k ≤ n ∧ i = .int .i64 k ∧ K.length = n ∧ OwnActS wr w.heap.size wr.heap.size w.heap.size n K k ∧ (∀ i, i < k → (eAt K i).pl = (eAt J i).pl) ∧ Below w.heap.size w wr)
    (fun i _ => n - (intOf i).toNat)
  case atStart => exact ⟨0, List.replicate n QE.zero, Nat.zero_le _, rfl, by simp, hO0, fun i hi => absurd hi (Nat.not_lt_zero _), hb0⟩
  case round =>
    clear hO0 hb0 hs0
    obtain ⟨k, K, hk, rfl, hKn, hO, hpl, hbel⟩ := hrel
    have HKn := hide hKn
    have HPl := hide hpl
    have HO := hide hO
    clear hKn hpl hO
    by_cases hlt : k < n
    · obtain ⟨b, off, hab, hbw, hc⟩ := hr.cells (by rw [← HN.out]; omega)
      obtain ⟨c0, c1, c2, c3, c4, hv⟩ := hc k (by rw [← HN.out]; exact hlt)
      have HV := hide (hv.below hbel)
      clear hc hv
      subst hab
      rw [← hbel.cell (p := ⟨b, off + k * 5, none⟩) hbw] at c0
      rw [← hbel.cell (p := ⟨b, off + k * 5 + 1, none⟩) hbw] at c1
      rw [← hbel.cell (p := ⟨b, off + k * 5 + 2, none⟩) hbw] at c2
      rw [← hbel.cell (p := ⟨b, off + k * 5 + 3, none⟩) hbw] at c3
      rw [← hbel.cell (p := ⟨b, off + k * 5 + 4, none⟩) hbw] at c4
      have HK : Hid ((eAt J k).L.length ≤ 1048576) := by unfold Hid; rw [eAt_in (by rw [← HN.out]; exact hlt)]; exact HL.out _ (List.getElem_mem _)
      obtain ⟨x, hx⟩ : ∃ x, x = eAt J k := ⟨_, rfl⟩
      rw [← hx] at c0 c1 c2 c3 c4 HV HK
      have HX := hide hx
      clear hx
      obtain ⟨x0, x1, va, vc, L, x3, x4⟩ := x
      simp only at c0 c1 c2 c3 c4 HV HK
      go_wp2_with fail
      refine (toAct_any x0 x1 va vc L x3 x4 _ HV.out HK.out).mono ?_
      rintro e w2 ⟨g, rfl, hg, o, hb2⟩
      have hown2 : w2.ownsRow 0 88 5 (.slice (some ⟨w.heap.size, 0, none⟩) n n) n (rowOf QE.cs K) := by
        have := ownsRow_below' HO.out.own hb2
        rw [HKn.out] at this; exact this
      have hbel2 : Below w.heap.size w w2 := hbel.trans (hb2.mono hbel.size)
      have hlen : (rowOf QE.cs K).length = n * 5 := by rw [rowOf_length QE.len, HKn.out]
      have hmem : ∀ j, j < 5 → ∃ u, w2.cell? ⟨w.heap.size, k * 5 + j, none⟩ = some u := fun j hj => by
        rw [hown2.cellAt (k * 5 + j) (by omega), List.getElem?_eq_getElem (by omega)]
        exact ⟨_, rfl⟩
      obtain ⟨u0, m0⟩ := hmem 0 (by omega)
      obtain ⟨u1, m1⟩ := hmem 1 (by omega)
      obtain ⟨u2, m2⟩ := hmem 2 (by omega)
      obtain ⟨u3, m3⟩ := hmem 3 (by omega)
      obtain ⟨u4, m4⟩ := hmem 4 (by omega)
      rw [Nat.add_zero] at m0
      have f0 := hown2.frozenAt (k * 5)
      have f1 := hown2.frozenAt (k * 5 + 1)
      have f2 := hown2.frozenAt (k * 5 + 2)
      have f3 := hown2.frozenAt (k * 5 + 3)
      have f4 := hown2.frozenAt (k * 5 + 4)
      have s0 := hown2.stored (k * 5) (.int .i64 x0)
      have s1 := s0.1.stored (k * 5 + 1) (.string x1)
      have s2 := s1.1.stored (k * 5 + 2) (.slice (some ⟨g, 0, none⟩) L.length L.length)
      have s3 := s2.1.stored (k * 5 + 3) (.int .i64 x3)
      have s4 := s3.1.stored (k * 5 + 4) (.string x4)
      have hset := rowOf_set_QE ⟨x0, x1, some ⟨g, 0, none⟩, L.length, L, x3, x4⟩ K k (by rw [HKn.out]; exact hlt)
      have hgr := (grown_tt (grown_tt (grown_tt (grown_tt s0.2 s1.2) s2.2) s3.2) s4.2)
      have hown3 := s4.1
      simp only at hset
      rw [hset] at hown3
      have hO3 : OwnK 88 QE.cs 5 (((((w2.setCell ⟨w.heap.size, k * 5, none⟩ (.int .i64 x0)).setCell ⟨w.heap.size, k * 5 + 1, none⟩ (.string x1)).setCell ⟨w.heap.size, k * 5 + 2, none⟩ (.slice (some ⟨g, 0, none⟩) L.length L.length)).setCell ⟨w.heap.size, k * 5 + 3, none⟩ (.int .i64 x3)).setCell ⟨w.heap.size, k * 5 + 4, none⟩ (.string x4)) w.heap.size n (K.set k ⟨x0, x1, some ⟨g, 0, none⟩, L.length, L, x3, x4⟩) := OwnK.of QE.len (by decide) hown3
      have HC := hide (HO.out.step innAct (by rw [HKn.out]; exact hlt) hb2 (x := ⟨x0, x1, some ⟨g, 0, none⟩, L.length, L, x3, x4⟩) ⟨g, rfl, hg, o.lt, o⟩ hgr hO3)
      have HB := hide (below_set hbel2 hgr (Nat.le_refl _))
      have hsz3 : w2.heap.size ≤ (((((w2.setCell ⟨w.heap.size, k * 5, none⟩ (.int .i64 x0)).setCell ⟨w.heap.size, k * 5 + 1, none⟩ (.string x1)).setCell ⟨w.heap.size, k * 5 + 2, none⟩ (.slice (some ⟨g, 0, none⟩) L.length L.length)).setCell ⟨w.heap.size, k * 5 + 3, none⟩ (.int .i64 x3)).setCell ⟨w.heap.size, k * 5 + 4, none⟩ (.string x4)).heap.size := hgr.size
      have HLen : Hid ((K.set k ⟨x0, x1, some ⟨g, 0, none⟩, L.length, L, x3, x4⟩).length = n) := by unfold Hid; rw [List.length_set, HKn.out]
      have HPl2 : Hid (∀ i, i < k + 1 → (eAt (K.set k ⟨x0, x1, some ⟨g, 0, none⟩, L.length, L, x3, x4⟩) i).pl = (eAt J i).pl) := fun i hi => by
        rw [eAt_set (by rw [HKn.out]; exact hlt)]
        by_cases e : i = k
        · rw [if_pos e, e, ← HX.out]; rfl
        · rw [if_neg e]; exact HPl.out i (by omega)
      have HW := hide (HC.out.weaken (Nat.le_refl _) hsz3 (Nat.le_refl _))
      clear hmem hlen c0 c1 c2 c3 c4 hbel hb2 s0 s1 s2 s3 s4 hset hown2 hbel2 o HV HK HPl HO hO3 hown3 hgr HC hsz3
      go_wp2
      go_roundw
      case rel => exact ⟨k + 1, _, by omega, by go_num, HLen.out, HW.out, HPl2.out, HB.out⟩
      case measure => simp [intOf]; omega
    · have hkn : k = K.length := by rw [HKn.out]; omega
      have HR : Hid (OwnActS wr w.heap.size wr.heap.size w.heap.size n K K.length ∧ K.map QE.pl = J.map QE.pl) :=
        ⟨hkn ▸ HO.out, map_ext (by rw [HKn.out, HN.out]) (fun i hi => HPl.out i (by rw [hkn]; exact hi))⟩
      clear hkn
      go_wp2
      go_ret
      exact ⟨K, _, rfl, HR.out.1, HR.out.2, hbel⟩

/-- cells in memory, two lists, and all that was there at the head -/
theorem keepAct {w0 W w' : World} {p0 p1 p2 p3 p4 p5 p6 p7 p8 p9 : Addr} {v0 v1 v2 v3 v4 v5 v6 v7 v8 v9 : Value} {a b : Option Addr} {L : List X11} (hb : Below W.heap.size W w')
    (h : W.cell? p0 = some v0 ∧ W.cell? p1 = some v1 ∧ W.cell? p2 = some v2 ∧ W.cell? p3 = some v3 ∧ W.cell? p4 = some v4 ∧ W.cell? p5 = some v5 ∧ W.cell? p6 = some v6 ∧ W.cell? p7 = some v7 ∧ W.cell? p8 = some v8 ∧ W.cell? p9 = some v9 ∧ (RdExpr W a L ∧ RdExpr W b L ∧ Below w0.heap.size w0 W ∧ w0.heap.size ≤ W.heap.size)) :
    w'.cell? p0 = some v0 ∧ w'.cell? p1 = some v1 ∧ w'.cell? p2 = some v2 ∧ w'.cell? p3 = some v3 ∧ w'.cell? p4 = some v4 ∧ w'.cell? p5 = some v5 ∧ w'.cell? p6 = some v6 ∧ w'.cell? p7 = some v7 ∧ w'.cell? p8 = some v8 ∧ w'.cell? p9 = some v9 ∧ (RdExpr w' a L ∧ RdExpr w' b L ∧ Below w0.heap.size w0 w' ∧ w0.heap.size ≤ w'.heap.size) := by
  obtain ⟨g0, g1, g2, g3, g4, g5, g6, g7, g8, g9, q1, q2, q3, q4⟩ := h
  have k : ∀ {a : Addr} {v : Value}, W.cell? a = some v → w'.cell? a = some v := fun {a v} h => by rw [hb.cell (World.block_lt_of_cell? W _ h)]; exact h
  exact ⟨k g0, k g1, k g2, k g3, k g4, k g5, k g6, k g7, k g8, k g9, q1.below hb, q2.below hb, q3.trans (hb.mono q4), Nat.le_trans q4 hb.size⟩

set_option maxRecDepth 100000 in
set_option maxHeartbeats 3200000 in
theorem eqActS_same (a b : Option Addr) (ca cb n : Nat) (J K : List QE) (w : World) (hr : RdActS w a J) (hq : RdActS w b K) (hJ : J.length = n) (hpl : J.map QE.pl = K.map QE.pl) (hm : n ≤ 1048580) (hl : ∀ x ∈ J, x.L.length ≤ 1048576) :
    Calls Try.prog 62 #[.slice a n ca, .slice b n cb] w fun e w' =>
      e = .returned (.bool true) ∧ Below w.heap.size w w' := by
  have HJ := hide hJ
  have HK : Hid (K.length = n) := by unfold Hid; rw [← hJ, map_len hpl]
  have HP := hide hpl
  have HL := hide hl
  clear hJ hpl hl
  have hnn : ((n : Int) != (n : Int)) = false := by simp
  go_enter Try.func62, Try.ntmps62
  go_wp2
  go_loopw [5] (fun i wr => ∃ (k : Nat), k ≤ n ∧ i = .int .i64 k ∧ Below w.heap.size w wr) (fun i _ => n - (intOf i).toNat)
  case atStart => exact ⟨0, Nat.zero_le _, rfl, Below.refl _ _⟩
  case round =>
    obtain ⟨k, hk, rfl, hbel⟩ := hrel
    by_cases hlt : k < n
    · obtain ⟨b1, o1, e1, hbw1, hc1⟩ := hr.cells (by rw [HJ.out]; omega)
      obtain ⟨b2, o2, e2, hbw2, hc2⟩ := hq.cells (by rw [HK.out]; omega)
      obtain ⟨c0, c1, c2, c3, c4, hv1⟩ := hc1 k (by rw [HJ.out]; exact hlt)
      obtain ⟨d0, d1, d2, d3, d4, hv2⟩ := hc2 k (by rw [HK.out]; exact hlt)
      have HP1 := QE.pl_inj (map_at HP.out (i := k) (by rw [HJ.out]; exact hlt))
      have HLk : Hid ((eAt J k).L.length ≤ 1048576) := by unfold Hid; rw [eAt_in (by rw [HJ.out]; exact hlt)]; exact HL.out _ (List.getElem_mem _)
      replace hv1 := hv1.below hbel
      replace hv2 := hv2.below hbel
      clear hc1 hc2
      subst e1 e2
      rw [← hbel.cell (p := ⟨b1, o1 + k * 5, none⟩) hbw1] at c0
      rw [← hbel.cell (p := ⟨b1, o1 + k * 5 + 1, none⟩) hbw1] at c1
      rw [← hbel.cell (p := ⟨b1, o1 + k * 5 + 2, none⟩) hbw1] at c2
      rw [← hbel.cell (p := ⟨b1, o1 + k * 5 + 3, none⟩) hbw1] at c3
      rw [← hbel.cell (p := ⟨b1, o1 + k * 5 + 4, none⟩) hbw1] at c4
      rw [← hbel.cell (p := ⟨b2, o2 + k * 5, none⟩) hbw2] at d0
      rw [← hbel.cell (p := ⟨b2, o2 + k * 5 + 1, none⟩) hbw2] at d1
      rw [← hbel.cell (p := ⟨b2, o2 + k * 5 + 2, none⟩) hbw2] at d2
      rw [← hbel.cell (p := ⟨b2, o2 + k * 5 + 3, none⟩) hbw2] at d3
      rw [← hbel.cell (p := ⟨b2, o2 + k * 5 + 4, none⟩) hbw2] at d4
      generalize eAt J k = x at c0 c1 c2 c3 c4 hv1 HP1 HLk
      generalize eAt K k = y at d0 d1 d2 d3 d4 hv2 HP1
      obtain ⟨x0, x1, va, vc, L, x3, x4⟩ := x
      obtain ⟨y0, y1, vb, wc, M, y3, y4⟩ := y
      simp only at c0 c1 c2 c3 c4 hv1 d0 d1 d2 d3 d4 hv2 HP1 HLk
      obtain ⟨rfl, rfl, rfl, rfl, rfl⟩ := HP1
      have T0 : RdExpr wr va L ∧ RdExpr wr vb L ∧ Below w.heap.size w wr ∧ w.heap.size ≤ wr.heap.size := ⟨hv1, hv2, hbel, hbel.size⟩
      have T1 : RdExpr wr.drew va L := T0.1.heap rfl
      have T2 : RdExpr wr.drew vb L := T0.2.1.heap rfl
      clear hv1 hv2 hbel
      go_wp2_with fail
      go_region_held3 (fun W => W.cell? ⟨b1, o1 + k * 5, none⟩ = some (.int .i64 x0) ∧ W.cell? ⟨b1, o1 + k * 5 + 1, none⟩ = some (.string x1) ∧ W.cell? ⟨b1, o1 + k * 5 + 2, none⟩ = some (.slice va L.length vc) ∧ W.cell? ⟨b1, o1 + k * 5 + 3, none⟩ = some (.int .i64 x3) ∧ W.cell? ⟨b1, o1 + k * 5 + 4, none⟩ = some (.string x4) ∧ W.cell? ⟨b2, o2 + k * 5, none⟩ = some (.int .i64 x0) ∧ W.cell? ⟨b2, o2 + k * 5 + 1, none⟩ = some (.string x1) ∧ W.cell? ⟨b2, o2 + k * 5 + 2, none⟩ = some (.slice vb L.length wc) ∧ W.cell? ⟨b2, o2 + k * 5 + 3, none⟩ = some (.int .i64 x3) ∧ W.cell? ⟨b2, o2 + k * 5 + 4, none⟩ = some (.string x4) ∧ (RdExpr W va L ∧ RdExpr W vb L ∧ Below w.heap.size w W ∧ w.heap.size ≤ W.heap.size)) (first | exact ⟨c0, c1, c2, c3, c4, d0, d1, d2, d3, d4, T0.1.heap rfl, T0.2.1.heap rfl, T0.2.2.1.drew, T0.2.2.2⟩ | exact keepAct (by assumption) (by assumption))
        (first | (go_at_call 85; refine (eqAct_same _ _ _ _ _ _ _ _ _ _ T1 T2 (by have := HLk.out; omega)).mono ?_; rintro e w2 ⟨rfl, hb⟩))
      all_goals
        obtain ⟨-, -, -, -, -, -, -, -, -, -, -, -, hB2, -⟩ : w2.cell? ⟨b1, o1 + k * 5, none⟩ = some (.int .i64 x0) ∧ w2.cell? ⟨b1, o1 + k * 5 + 1, none⟩ = some (.string x1) ∧ w2.cell? ⟨b1, o1 + k * 5 + 2, none⟩ = some (.slice va L.length vc) ∧ w2.cell? ⟨b1, o1 + k * 5 + 3, none⟩ = some (.int .i64 x3) ∧ w2.cell? ⟨b1, o1 + k * 5 + 4, none⟩ = some (.string x4) ∧ w2.cell? ⟨b2, o2 + k * 5, none⟩ = some (.int .i64 x0) ∧ w2.cell? ⟨b2, o2 + k * 5 + 1, none⟩ = some (.string x1) ∧ w2.cell? ⟨b2, o2 + k * 5 + 2, none⟩ = some (.slice vb L.length wc) ∧ w2.cell? ⟨b2, o2 + k * 5 + 3, none⟩ = some (.int .i64 x3) ∧ w2.cell? ⟨b2, o2 + k * 5 + 4, none⟩ = some (.string x4) ∧ (RdExpr w2 va L ∧ RdExpr w2 vb L ∧ Below w.heap.size w w2 ∧ w.heap.size ≤ w2.heap.size) := by assumption
        go_wp2
        go_roundw
        case rel => exact ⟨k + 1, by omega, by go_num, hB2⟩
        case measure => simp [intOf]; omega
    · go_wp2
      go_ret
      exact ⟨rfl, hbel⟩
end Go.Proofs.Ytcfhpcbkdpgboaa
/-
  The contracts of the laws' own helpers on Conds: to copies, sz counts off, eq finds one the same as itself.
-/
namespace Go.Proofs.Ytcfhpcbkdpgboaa
open Go.RowKit
set_option linter.unusedVariables false

theorem Try.info79 : (Try.prog.info? 79).map (fun i => (i.zero, i.size, i.bytes)) = some (some (.agg #[.int .i64 0, .int .i64 0, .string ⟨#[]⟩, .int .i64 0, .int .i64 0, .string ⟨#[]⟩, .int .i64 0, .string ⟨#[]⟩, .int .i64 0, .int .i64 0, .string ⟨#[]⟩]), 11, 120) := by kernel_rfl

set_option maxRecDepth 100000 in
set_option maxHeartbeats 3200000 in
theorem toCond_any (Op : Int) (LK : Int) (LS : ByteArray) (LVK : Int) (LVN : Int) (LVS : ByteArray) (RK : Int) (RS : ByteArray) (RVK : Int) (RVN : Int) (RVS : ByteArray) (w : World) :
    Calls Try.prog 81 #[.agg #[.int .i64 Op, .int .i64 LK, .string LS, .int .i64 LVK, .int .i64 LVN, .string LVS, .int .i64 RK, .string RS, .int .i64 RVK, .int .i64 RVN, .string RVS]] w fun e w' => e = .returned (.agg #[.int .i64 Op, .int .i64 LK, .string LS, .int .i64 LVK, .int .i64 LVN, .string LVS, .int .i64 RK, .string RS, .int .i64 RVK, .int .i64 RVN, .string RVS]) ∧ Below w.heap.size w w' := by
  go_enter Try.func81, Try.ntmps81
  go_wp2_with fail
  obtain ⟨hA, hR, hX, b2⟩ := boxes3 w #[.int .i64 Op, .int .i64 LK, .string LS, .int .i64 LVK, .int .i64 LVN, .string LVS, .int .i64 RK, .string RS, .int .i64 RVK, .int .i64 RVN, .string RVS] #[.int .i64 0, .int .i64 0, .string ⟨#[]⟩, .int .i64 0, .int .i64 0, .string ⟨#[]⟩, .int .i64 0, .string ⟨#[]⟩, .int .i64 0, .int .i64 0, .string ⟨#[]⟩] #[.int .i64 Op, .int .i64 0, .string ⟨#[]⟩, .int .i64 0, .int .i64 0, .string ⟨#[]⟩, .int .i64 0, .string ⟨#[]⟩, .int .i64 0, .int .i64 0, .string ⟨#[]⟩] 127 79 79
  refine (toArg_any LK LS LVK LVN LVS _).mono ?_
  rintro e w1 ⟨rfl, hb⟩
  have HA := hide (box_below hA hb (by simp; omega))
  have HR := hide (box_below hR hb (by simp))
  have HX := hide (box_below hX hb (by simp))
  have hB : Below w.heap.size w w1 := b2.trans (hb.mono b2.size)
  clear hb hR hX hA b2
  have x0 := boxk_cell HX.out 0 _ rfl
  have xf0 := boxk_frozen HX.out 0
  have x1 := boxk_cell HX.out 1 _ rfl
  have xf1 := boxk_frozen HX.out 1
  have x2 := boxk_cell HX.out 2 _ rfl
  have xf2 := boxk_frozen HX.out 2
  have x3 := boxk_cell HX.out 3 _ rfl
  have xf3 := boxk_frozen HX.out 3
  have x4 := boxk_cell HX.out 4 _ rfl
  have xf4 := boxk_frozen HX.out 4
  have x5 := boxk_cell HX.out 5 _ rfl
  have xf5 := boxk_frozen HX.out 5
  have x6 := boxk_cell HX.out 6 _ rfl
  have xf6 := boxk_frozen HX.out 6
  have x7 := boxk_cell HX.out 7 _ rfl
  have xf7 := boxk_frozen HX.out 7
  have x8 := boxk_cell HX.out 8 _ rfl
  have xf8 := boxk_frozen HX.out 8
  have x9 := boxk_cell HX.out 9 _ rfl
  have xf9 := boxk_frozen HX.out 9
  have x10 := boxk_cell HX.out 10 _ rfl
  have xf10 := boxk_frozen HX.out 10
  have a6 := boxk_cell HA.out 6 _ rfl
  have a7 := boxk_cell HA.out 7 _ rfl
  have a8 := boxk_cell HA.out 8 _ rfl
  have a9 := boxk_cell HA.out 9 _ rfl
  have a10 := boxk_cell HA.out 10 _ rfl
  have HL := hide (box11_setL HX.out (.int .i64 LK) (.string LS) (.int .i64 LVK) (.int .i64 LVN) (.string LVS))
  have HRs := hide (box_gr HR.out HL.out.2 (by omega))
  have HBs := hide (below_set hB HL.out.2 (by omega))
  have HXs := hide HL.out.1
  go_wp2_with fail
  refine (toArg_any RK RS RVK RVN RVS _).mono ?_
  clear x0 xf0 x1 xf1 x2 xf2 x3 xf3 x4 xf4 x5 xf5 x6 xf6 x7 xf7 x8 xf8 x9 xf9 x10 xf10 a6 a7 a8 a9 a10 HX HR HA hB HL
  generalize (((((w1.setCell ⟨w.heap.size + 1 + 1, 1, none⟩ (.int .i64 LK)).setCell ⟨w.heap.size + 1 + 1, 2, none⟩ (.string LS)).setCell ⟨w.heap.size + 1 + 1, 3, none⟩ (.int .i64 LVK)).setCell ⟨w.heap.size + 1 + 1, 4, none⟩ (.int .i64 LVN)).setCell ⟨w.heap.size + 1 + 1, 5, none⟩ (.string LVS)) = w2 at HRs HBs HXs
  rintro e w3 ⟨rfl, hb⟩
  have HR3 := hide (box_step HRs.out hb)
  have HX3 := hide (box_step HXs.out hb)
  have hB3 : Below w.heap.size w w3 := HBs.out.trans (hb.mono HBs.out.size)
  clear hb HRs HBs HXs
  have x0 := boxk_cell HX3.out 0 _ rfl
  have xf0 := boxk_frozen HX3.out 0
  have x1 := boxk_cell HX3.out 1 _ rfl
  have xf1 := boxk_frozen HX3.out 1
  have x2 := boxk_cell HX3.out 2 _ rfl
  have xf2 := boxk_frozen HX3.out 2
  have x3 := boxk_cell HX3.out 3 _ rfl
  have xf3 := boxk_frozen HX3.out 3
  have x4 := boxk_cell HX3.out 4 _ rfl
  have xf4 := boxk_frozen HX3.out 4
  have x5 := boxk_cell HX3.out 5 _ rfl
  have xf5 := boxk_frozen HX3.out 5
  have x6 := boxk_cell HX3.out 6 _ rfl
  have xf6 := boxk_frozen HX3.out 6
  have x7 := boxk_cell HX3.out 7 _ rfl
  have xf7 := boxk_frozen HX3.out 7
  have x8 := boxk_cell HX3.out 8 _ rfl
  have xf8 := boxk_frozen HX3.out 8
  have x9 := boxk_cell HX3.out 9 _ rfl
  have xf9 := boxk_frozen HX3.out 9
  have x10 := boxk_cell HX3.out 10 _ rfl
  have xf10 := boxk_frozen HX3.out 10
  have HX6 := hide (box11_setR HX3.out (.int .i64 RK) (.string RS) (.int .i64 RVK) (.int .i64 RVN) (.string RVS))
  have HR4 := hide (box_gr HR3.out HX6.out.2 (by omega))
  have HB4 := hide (below_set hB3 HX6.out.2 (by omega))
  have HX7 := hide HX6.out.1
  go_upto_region 5 with fail
  clear x0 xf0 x1 xf1 x2 xf2 x3 xf3 x4 xf4 x5 xf5 x6 xf6 x7 xf7 x8 xf8 x9 xf9 x10 xf10 HX6 HX3 HR3 hB3
  generalize (((((w3.setCell ⟨w.heap.size + 1 + 1, 6, none⟩ (.int .i64 RK)).setCell ⟨w.heap.size + 1 + 1, 7, none⟩ (.string RS)).setCell ⟨w.heap.size + 1 + 1, 8, none⟩ (.int .i64 RVK)).setCell ⟨w.heap.size + 1 + 1, 9, none⟩ (.int .i64 RVN)).setCell ⟨w.heap.size + 1 + 1, 10, none⟩ (.string RVS)) = w5 at HR4 HB4 HX7
  have x0 := boxk_cell HX7.out 0 _ rfl
  have r0 := boxk_cell HR4.out 0 _ rfl
  have rf0 := boxk_frozen HR4.out 0
  have x1 := boxk_cell HX7.out 1 _ rfl
  have r1 := boxk_cell HR4.out 1 _ rfl
  have rf1 := boxk_frozen HR4.out 1
  have x2 := boxk_cell HX7.out 2 _ rfl
  have r2 := boxk_cell HR4.out 2 _ rfl
  have rf2 := boxk_frozen HR4.out 2
  have x3 := boxk_cell HX7.out 3 _ rfl
  have r3 := boxk_cell HR4.out 3 _ rfl
  have rf3 := boxk_frozen HR4.out 3
  have x4 := boxk_cell HX7.out 4 _ rfl
  have r4 := boxk_cell HR4.out 4 _ rfl
  have rf4 := boxk_frozen HR4.out 4
  have x5 := boxk_cell HX7.out 5 _ rfl
  have r5 := boxk_cell HR4.out 5 _ rfl
  have rf5 := boxk_frozen HR4.out 5
  have x6 := boxk_cell HX7.out 6 _ rfl
  have r6 := boxk_cell HR4.out 6 _ rfl
  have rf6 := boxk_frozen HR4.out 6
  have x7 := boxk_cell HX7.out 7 _ rfl
  have r7 := boxk_cell HR4.out 7 _ rfl
  have rf7 := boxk_frozen HR4.out 7
  have x8 := boxk_cell HX7.out 8 _ rfl
  have r8 := boxk_cell HR4.out 8 _ rfl
  have rf8 := boxk_frozen HR4.out 8
  have x9 := boxk_cell HX7.out 9 _ rfl
  have r9 := boxk_cell HR4.out 9 _ rfl
  have rf9 := boxk_frozen HR4.out 9
  have x10 := boxk_cell HX7.out 10 _ rfl
  have r10 := boxk_cell HR4.out 10 _ rfl
  have rf10 := boxk_frozen HR4.out 10
  go_wp2
  refine box11_post HR4.out (fun w4 h4 gr => ?_)
  clear x0 r0 rf0 x1 r1 rf1 x2 r2 rf2 x3 r3 rf3 x4 r4 rf4 x5 r5 rf5 x6 r6 rf6 x7 r7 rf7 x8 r8 rf8 x9 r9 rf9 x10 r10 rf10
  have c0 := boxk_cell h4 0 _ rfl
  have c1 := boxk_cell h4 1 _ rfl
  have c2 := boxk_cell h4 2 _ rfl
  have c3 := boxk_cell h4 3 _ rfl
  have c4 := boxk_cell h4 4 _ rfl
  have c5 := boxk_cell h4 5 _ rfl
  have c6 := boxk_cell h4 6 _ rfl
  have c7 := boxk_cell h4 7 _ rfl
  have c8 := boxk_cell h4 8 _ rfl
  have c9 := boxk_cell h4 9 _ rfl
  have c10 := boxk_cell h4 10 _ rfl
  exact bodyPost_ret (v := .agg #[.int .i64 Op, .int .i64 LK, .string LS, .int .i64 LVK, .int .i64 LVN, .string LVS, .int .i64 RK, .string RS, .int .i64 RVK, .int .i64 RVN, .string RVS]) (by simp [results, Try.results81, go_sem, c0, c1, c2, c3, c4, c5, c6, c7, c8, c9, c10]) rfl ⟨rfl, below_set HB4.out gr (by omega)⟩

set_option maxRecDepth 100000 in
set_option maxHeartbeats 1600000 in
theorem szCond_any (Op : Int) (LK : Int) (LS : ByteArray) (LVK : Int) (LVN : Int) (LVS : ByteArray) (RK : Int) (RS : ByteArray) (RVK : Int) (RVN : Int) (RVS : ByteArray) (left : Int) (w : World) (s0 : LS.size ≤ maxLen) (s1 : LVS.size ≤ maxLen) (s2 : RS.size ≤ maxLen) (s3 : RVS.size ≤ maxLen) (h0 : 0 ≤ left) (h1 : left ≤ 1048576) :
    Calls Try.prog 78 #[.agg #[.int .i64 Op, .int .i64 LK, .string LS, .int .i64 LVK, .int .i64 LVN, .string LVS, .int .i64 RK, .string RS, .int .i64 RVK, .int .i64 RVN, .string RVS], .int .i64 left] w fun e w' =>
      (∃ r, e = .returned (.int .i64 r) ∧ (r = -1 ∨ (0 ≤ r ∧ r + (LS.size : Int) + (LVS.size : Int) + (RS.size : Int) + (RVS.size : Int) ≤ left))) ∧ Below w.heap.size w w' := by
  go_enter Try.func78, Try.ntmps78
  go_wp2_with fail
  have b0 := below_al w (.cells #[.int .i64 Op, .int .i64 LK, .string LS, .int .i64 LVK, .int .i64 LVN, .string LVS, .int .i64 RK, .string RS, .int .i64 RVK, .int .i64 RVN, .string RVS] 127)
  have hA := boxk_new w #[.int .i64 Op, .int .i64 LK, .string LS, .int .i64 LVK, .int .i64 LVN, .string LVS, .int .i64 RK, .string RS, .int .i64 RVK, .int .i64 RVN, .string RVS] 127
  refine (szArg_any LK LS LVK LVN LVS left _ s0 s1 h0 h1).mono ?_
  rintro e w1 ⟨⟨r, rfl, hr⟩, hb1⟩
  have HA1 := hide (box_below hA hb1 (by simp))
  have hB1 : Below w.heap.size w w1 := b0.trans (hb1.mono b0.size)
  clear hb1 b0 hA
  rcases hr with rfl | ⟨h2, h3⟩
  · go_wp2
    go_ret
    exact ⟨⟨-1, rfl, .inl rfl⟩, hB1⟩
  · have H3 := hide h3
    have h4 : r ≤ 1048576 := by omega
    clear h3
    have a6 := boxk_cell HA1.out 6 _ rfl
    have a7 := boxk_cell HA1.out 7 _ rfl
    have a8 := boxk_cell HA1.out 8 _ rfl
    have a9 := boxk_cell HA1.out 9 _ rfl
    have a10 := boxk_cell HA1.out 10 _ rfl
    go_wp2_with fail
    refine (szArg_any RK RS RVK RVN RVS r _ s2 s3 h2 h4).mono ?_
    rintro e w2 ⟨⟨r2, rfl, hr2⟩, hb2⟩
    have hB2 : Below w.heap.size w w2 := hB1.trans (hb2.mono hB1.size)
    clear hb2 hB1 HA1 a6 a7 a8 a9 a10
    rcases hr2 with rfl | ⟨h5, h6⟩
    · go_wp2
      go_ret
      exact ⟨⟨-1, rfl, .inl rfl⟩, hB2⟩
    · have H6 := hide h6
      clear h6
      go_wp2
      go_ret
      have := H3.out
      have := H6.out
      exact ⟨⟨_, rfl, .inr ⟨h5, by omega⟩⟩, hB2⟩

set_option maxRecDepth 100000 in
set_option maxHeartbeats 1600000 in
theorem eqCond_same (Op : Int) (LK : Int) (LS : ByteArray) (LVK : Int) (LVN : Int) (LVS : ByteArray) (RK : Int) (RS : ByteArray) (RVK : Int) (RVN : Int) (RVS : ByteArray) (w : World) :
    Calls Try.prog 84 #[.agg #[.int .i64 Op, .int .i64 LK, .string LS, .int .i64 LVK, .int .i64 LVN, .string LVS, .int .i64 RK, .string RS, .int .i64 RVK, .int .i64 RVN, .string RVS], .agg #[.int .i64 Op, .int .i64 LK, .string LS, .int .i64 LVK, .int .i64 LVN, .string LVS, .int .i64 RK, .string RS, .int .i64 RVK, .int .i64 RVN, .string RVS]] w fun e w' => e = .returned (.bool true) ∧ Below w.heap.size w w' := by
  have kO : (Op != Op) = false := by simp
  go_enter Try.func84, Try.ntmps84
  go_wp2_with fail
  obtain ⟨hA, hD, b1⟩ := boxes2 w #[.int .i64 Op, .int .i64 LK, .string LS, .int .i64 LVK, .int .i64 LVN, .string LVS, .int .i64 RK, .string RS, .int .i64 RVK, .int .i64 RVN, .string RVS] #[.int .i64 Op, .int .i64 LK, .string LS, .int .i64 LVK, .int .i64 LVN, .string LVS, .int .i64 RK, .string RS, .int .i64 RVK, .int .i64 RVN, .string RVS] 79 79
  refine (eqArg_same LK LS LVK LVN LVS _).mono ?_
  rintro e w1 ⟨rfl, hb⟩
  have HA := hide (box_below hA hb (by simp; omega))
  have HD := hide (box_below hD hb (by simp))
  have hB : Below w.heap.size w w1 := b1.trans (hb.mono b1.size)
  clear hb hA hD b1
  have a6 := boxk_cell HA.out 6 _ rfl
  have d6 := boxk_cell HD.out 6 _ rfl
  have a7 := boxk_cell HA.out 7 _ rfl
  have d7 := boxk_cell HD.out 7 _ rfl
  have a8 := boxk_cell HA.out 8 _ rfl
  have d8 := boxk_cell HD.out 8 _ rfl
  have a9 := boxk_cell HA.out 9 _ rfl
  have d9 := boxk_cell HD.out 9 _ rfl
  have a10 := boxk_cell HA.out 10 _ rfl
  have d10 := boxk_cell HD.out 10 _ rfl
  go_wp2_with fail
  refine (eqArg_same RK RS RVK RVN RVS _).mono ?_
  rintro e w2 ⟨rfl, hb⟩
  have hB2 : Below w.heap.size w w2 := hB.trans (hb.mono hB.size)
  go_wp2
  go_ret
  exact ⟨rfl, hB2⟩
end Go.Proofs.Ytcfhpcbkdpgboaa
/-
  The contracts of the laws' own helpers on rows of Conds: to copies, sz counts off, eq finds a row the same as itself.
-/
namespace Go.Proofs.Ytcfhpcbkdpgboaa
open Go.RowKit
set_option linter.unusedVariables false

set_option maxRecDepth 100000 in
set_option maxHeartbeats 3200000 in
theorem toCondS_at (a : Option Addr) (cap : Nat) (L : List C11) (w : World) (hr : RdCond w a L) (hn : L.length ≤ 1048576) :
    Calls Try.prog 58 #[.slice a L.length cap] w fun e w' =>
      e = .returned (.slice (some ⟨w.heap.size, 0, none⟩) L.length L.length) ∧ w'.ownsRow w.heap.size 79 11 (.slice (some ⟨w.heap.size, 0, none⟩) L.length L.length) L.length (rowOf C11.cs L) ∧ Below w.heap.size w w' := by
  obtain ⟨i0, hi, hz0, hz1, hz2⟩ := info_parts Try.info79
  obtain ⟨n, hN⟩ : ∃ n, n = L.length := ⟨_, rfl⟩
  rw [← hN] at hn ⊢
  have HN := hide hN
  clear hN
  have hmade := rowOf_made (f := C11.cs) (x := C11.zero) (cs := #[.int .i64 0, .int .i64 0, .string ⟨#[]⟩, .int .i64 0, .int .i64 0, .string ⟨#[]⟩, .int .i64 0, .string ⟨#[]⟩, .int .i64 0, .int .i64 0, .string ⟨#[]⟩]) rfl (by decide) n
  go_enter Try.func58, Try.ntmps58
  go_wp2_with (at_make; refine wpList_make_full _ rfl _ _ 37 rfl w.heap.size 79 i0 (.agg #[.int .i64 0, .int .i64 0, .string ⟨#[]⟩, .int .i64 0, .int .i64 0, .string ⟨#[]⟩, .int .i64 0, .string ⟨#[]⟩, .int .i64 0, .int .i64 0, .string ⟨#[]⟩]) 11 Try.underlying37 hi hz0 hz1 _ _ _ _ n rfl rfl (by omega) (by omega) ?b2 ?b3 (Nat.le_refl _) ?_)
  case b2 => rw [hz2]; omega
  case b3 => unfold maxLen; omega
  intro w0 hown0 hgrow0
  have hown0' : w0.ownsRow w.heap.size 79 11 (.slice (some ⟨w.heap.size, 0, none⟩) n n) n (rowOf C11.cs (List.replicate n C11.zero)) := by rw [← hmade]; exact hown0
  clear hown0 hmade
  go_wp2
  go_loopw [4] (fun i wr => ∃ k : Nat, k ≤ n ∧ i = .int .i64 k ∧ wr.ownsRow w.heap.size 79 11 (.slice (some ⟨w.heap.size, 0, none⟩) n n) n (rowOf C11.cs (partK L C11.zero k)) ∧ Below w.heap.size w wr)
    (fun i _ => n - (intOf i).toNat)
  case atStart =>
    refine ⟨0, Nat.zero_le _, rfl, ?_, (Below.refl _ _).grown hgrow0 (Nat.le_refl _) (fun k h => by cases h)⟩
    rw [partK_zero, ← HN.out]
    exact hown0'
  case round =>
    obtain ⟨k, hk, rfl, hown, hbel⟩ := hrel
    by_cases hlt : k < n
    · obtain ⟨b, off, hab, hbw, hc⟩ := RdCond.cells hr (by rw [← HN.out]; omega)
      obtain ⟨c0, c1, c2, c3, c4, c5, c6, c7, c8, c9, c10⟩ := hc k (by rw [← HN.out]; exact hlt)
      clear hc
      subst hab
      rw [← hbel.cell (p := ⟨b, off + k * 11, none⟩) hbw] at c0
      rw [← hbel.cell (p := ⟨b, off + k * 11 + 1, none⟩) hbw] at c1
      rw [← hbel.cell (p := ⟨b, off + k * 11 + 2, none⟩) hbw] at c2
      rw [← hbel.cell (p := ⟨b, off + k * 11 + 3, none⟩) hbw] at c3
      rw [← hbel.cell (p := ⟨b, off + k * 11 + 4, none⟩) hbw] at c4
      rw [← hbel.cell (p := ⟨b, off + k * 11 + 5, none⟩) hbw] at c5
      rw [← hbel.cell (p := ⟨b, off + k * 11 + 6, none⟩) hbw] at c6
      rw [← hbel.cell (p := ⟨b, off + k * 11 + 7, none⟩) hbw] at c7
      rw [← hbel.cell (p := ⟨b, off + k * 11 + 8, none⟩) hbw] at c8
      rw [← hbel.cell (p := ⟨b, off + k * 11 + 9, none⟩) hbw] at c9
      rw [← hbel.cell (p := ⟨b, off + k * 11 + 10, none⟩) hbw] at c10
      go_wp2_with fail
      refine (toCond_any _ _ _ _ _ _ _ _ _ _ _ _).mono ?_
      rintro e w2 ⟨rfl, hb2⟩
      have hown2 : w2.ownsRow w.heap.size 79 11 (.slice (some ⟨w.heap.size, 0, none⟩) n n) n (rowOf C11.cs (partK L C11.zero k)) := ownsRow_below' hown hb2
      have hbel2 : Below w.heap.size w w2 := hbel.trans (hb2.mono hbel.size)
      have hlen : (rowOf C11.cs (partK L C11.zero k)).length = n * 11 := by rw [rowOf_length C11.len, partK_length (by rw [← HN.out]; omega), ← HN.out]
      have hmem : ∀ j, j < 11 → ∃ u, w2.cell? ⟨w.heap.size, k * 11 + j, none⟩ = some u := fun j hj => by
        rw [hown2.cellAt (k * 11 + j) (by omega), List.getElem?_eq_getElem (by omega)]
        exact ⟨_, rfl⟩
      obtain ⟨u0, m0⟩ := hmem 0 (by omega)
      obtain ⟨u1, m1⟩ := hmem 1 (by omega)
      obtain ⟨u2, m2⟩ := hmem 2 (by omega)
      obtain ⟨u3, m3⟩ := hmem 3 (by omega)
      obtain ⟨u4, m4⟩ := hmem 4 (by omega)
      obtain ⟨u5, m5⟩ := hmem 5 (by omega)
      obtain ⟨u6, m6⟩ := hmem 6 (by omega)
      obtain ⟨u7, m7⟩ := hmem 7 (by omega)
      obtain ⟨u8, m8⟩ := hmem 8 (by omega)
      obtain ⟨u9, m9⟩ := hmem 9 (by omega)
      obtain ⟨u10, m10⟩ := hmem 10 (by omega)
      rw [Nat.add_zero] at m0
      have f0 := hown2.frozenAt (k * 11)
      have f1 := hown2.frozenAt (k * 11 + 1)
      have f2 := hown2.frozenAt (k * 11 + 2)
      have f3 := hown2.frozenAt (k * 11 + 3)
      have f4 := hown2.frozenAt (k * 11 + 4)
      have f5 := hown2.frozenAt (k * 11 + 5)
      have f6 := hown2.frozenAt (k * 11 + 6)
      have f7 := hown2.frozenAt (k * 11 + 7)
      have f8 := hown2.frozenAt (k * 11 + 8)
      have f9 := hown2.frozenAt (k * 11 + 9)
      have f10 := hown2.frozenAt (k * 11 + 10)
      have HO := hide (((((((((((hown2.stored (k * 11) (.int .i64 (eAt L k).Op)).1.stored (k * 11 + 1) (.int .i64 (eAt L k).L.K)).1.stored (k * 11 + 2) (.string (eAt L k).L.S)).1.stored (k * 11 + 3) (.int .i64 (eAt L k).L.V.K)).1.stored (k * 11 + 4) (.int .i64 (eAt L k).L.V.N)).1.stored (k * 11 + 5) (.string (eAt L k).L.V.S)).1.stored (k * 11 + 6) (.int .i64 (eAt L k).R.K)).1.stored (k * 11 + 7) (.string (eAt L k).R.S)).1.stored (k * 11 + 8) (.int .i64 (eAt L k).R.V.K)).1.stored (k * 11 + 9) (.int .i64 (eAt L k).R.V.N)).1.stored (k * 11 + 10) (.string (eAt L k).R.V.S)).1
      have HB : Hid (Below w.heap.size w (((((((((((w2.setCell ⟨w.heap.size, k * 11, none⟩ (.int .i64 (eAt L k).Op)).setCell ⟨w.heap.size, k * 11 + 1, none⟩ (.int .i64 (eAt L k).L.K)).setCell ⟨w.heap.size, k * 11 + 2, none⟩ (.string (eAt L k).L.S)).setCell ⟨w.heap.size, k * 11 + 3, none⟩ (.int .i64 (eAt L k).L.V.K)).setCell ⟨w.heap.size, k * 11 + 4, none⟩ (.int .i64 (eAt L k).L.V.N)).setCell ⟨w.heap.size, k * 11 + 5, none⟩ (.string (eAt L k).L.V.S)).setCell ⟨w.heap.size, k * 11 + 6, none⟩ (.int .i64 (eAt L k).R.K)).setCell ⟨w.heap.size, k * 11 + 7, none⟩ (.string (eAt L k).R.S)).setCell ⟨w.heap.size, k * 11 + 8, none⟩ (.int .i64 (eAt L k).R.V.K)).setCell ⟨w.heap.size, k * 11 + 9, none⟩ (.int .i64 (eAt L k).R.V.N)).setCell ⟨w.heap.size, k * 11 + 10, none⟩ (.string (eAt L k).R.V.S))) := (((((((((((hbel2.setCell (Nat.le_refl _) _).setCell (Nat.le_refl _) _).setCell (Nat.le_refl _) _).setCell (Nat.le_refl _) _).setCell (Nat.le_refl _) _).setCell (Nat.le_refl _) _).setCell (Nat.le_refl _) _).setCell (Nat.le_refl _) _).setCell (Nat.le_refl _) _).setCell (Nat.le_refl _) _).setCell (Nat.le_refl _) _)
      rw [rowOf_set_C11 (eAt L k) _ k (by rw [partK_length (by rw [← HN.out]; omega), ← HN.out]; exact hlt), partK_set (by rw [← HN.out]; exact hlt)] at HO
      clear hmem hlen c0 c1 c2 c3 c4 c5 c6 c7 c8 c9 c10 hown hbel hb2 hown2 hbel2
      go_wp2
      go_roundw
      case rel => exact ⟨k + 1, by omega, by go_num, HO.out, HB.out⟩
      case measure => simp [intOf]; omega
    · have HE : Hid (wr.ownsRow w.heap.size 79 11 (.slice (some ⟨w.heap.size, 0, none⟩) n n) n (rowOf C11.cs L)) := by
        have hkn : k = L.length := by rw [← HN.out]; omega
        rw [hkn, partK_end] at hown
        exact hown
      clear hown
      go_wp2
      go_ret
      exact ⟨rfl, HE.out, hbel⟩

set_option maxRecDepth 100000 in
set_option maxHeartbeats 1600000 in
theorem szCondS_any (a : Option Addr) (cap : Nat) (L : List C11) (left : Int) (w : World) (hr : RdCond w a L) (hs : ∀ x ∈ L, x.fits) (hm : L.length ≤ maxLen) (h0 : 0 ≤ left) (h1 : left ≤ 1048576) :
    Calls Try.prog 55 #[.slice a L.length cap, .int .i64 left] w fun e w' =>
      (∃ r, e = .returned (.int .i64 r) ∧ (r = -1 ∨ (0 ≤ r ∧ r + (L.length : Int) ≤ left ∧ ∀ x ∈ L, x.small))) ∧ Below w.heap.size w w' := by
  unfold maxLen at hm
  obtain ⟨n, hN⟩ : ∃ n, n = L.length := ⟨_, rfl⟩
  rw [← hN] at hm ⊢
  have HN := hide hN
  have HS := hide hs
  clear hN hs
  by_cases h2 : left - (n : Int) < 0
  · go_enter Try.func55, Try.ntmps55
    go_wp2
    go_ret
    exact ⟨⟨-1, rfl, .inl rfl⟩, Below.refl _ _⟩
  · go_enter Try.func55, Try.ntmps55
    go_wp2
    go_loopw [1, 5] (fun l i wr => ∃ (k : Nat) (lf : Int), k ≤ n ∧ i = .int .i64 k ∧ l = .int .i64 lf ∧ 0 ≤ lf ∧ lf ≤ left - n ∧ (∀ j, j < k → (eAt L j).small) ∧ Below w.heap.size w wr) (fun _ i _ => n - (intOf i).toNat)
    case atStart => exact ⟨0, left - n, Nat.zero_le _, rfl, rfl, by omega, Int.le_refl _, fun j hj => absurd hj (Nat.not_lt_zero _), Below.refl _ _⟩
    case round =>
      obtain ⟨k, lf, hk, rfl, rfl, hlf, hle, hsm, hbel⟩ := hrel
      have HSm := hide hsm
      clear hsm
      by_cases hlt : k < n
      · obtain ⟨b, off, hab, hbw, hc⟩ := RdCond.cells hr (by rw [← HN.out]; omega)
        obtain ⟨c0, c1, c2, c3, c4, c5, c6, c7, c8, c9, c10⟩ := hc k (by rw [← HN.out]; exact hlt)
        clear hc
        subst hab
        rw [← hbel.cell (p := ⟨b, off + k * 11, none⟩) hbw] at c0
        rw [← hbel.cell (p := ⟨b, off + k * 11 + 1, none⟩) hbw] at c1
        rw [← hbel.cell (p := ⟨b, off + k * 11 + 2, none⟩) hbw] at c2
        rw [← hbel.cell (p := ⟨b, off + k * 11 + 3, none⟩) hbw] at c3
        rw [← hbel.cell (p := ⟨b, off + k * 11 + 4, none⟩) hbw] at c4
        rw [← hbel.cell (p := ⟨b, off + k * 11 + 5, none⟩) hbw] at c5
        rw [← hbel.cell (p := ⟨b, off + k * 11 + 6, none⟩) hbw] at c6
        rw [← hbel.cell (p := ⟨b, off + k * 11 + 7, none⟩) hbw] at c7
        rw [← hbel.cell (p := ⟨b, off + k * 11 + 8, none⟩) hbw] at c8
        rw [← hbel.cell (p := ⟨b, off + k * 11 + 9, none⟩) hbw] at c9
        rw [← hbel.cell (p := ⟨b, off + k * 11 + 10, none⟩) hbw] at c10
        have hS : (eAt L k).fits := by rw [eAt_in (by rw [← HN.out]; exact hlt)]; exact HS.out _ (List.getElem_mem _)
        obtain ⟨⟨hS0, hS1⟩, hS2, hS3⟩ := hS
        go_wp2_with fail
        refine (szCond_any _ _ _ _ _ _ _ _ _ _ _ lf _ hS0 hS1 hS2 hS3 hlf (by omega)).mono ?_
        rintro e w2 ⟨⟨r, rfl, hr2⟩, hb2⟩
        have hbel2 : Below w.heap.size w w2 := hbel.trans (hb2.mono hbel.size)
        clear hb2 c0 c1 c2 c3 c4 c5 c6 c7 c8 c9 c10 hbel
        rcases hr2 with rfl | ⟨h3, h4⟩
        · go_wp2
          go_ret
          exact ⟨⟨-1, rfl, .inl rfl⟩, hbel2⟩
        · have HSk : Hid ((eAt L k).small) := ⟨⟨by omega, by omega⟩, by omega, by omega⟩
          have h5 : r ≤ lf := by omega
          clear h4
          go_wp2
          go_roundw
          case rel => exact ⟨k + 1, r, by omega, by go_num, rfl, h3, by omega, fun j hj => by
              by_cases hjk : j = k
              · rw [hjk]; exact HSk.out
              · exact HSm.out j (by omega), hbel2⟩
          case measure => simp [intOf]; omega
      · have HAll : Hid (∀ x ∈ L, x.small) := fun x hx => by
          obtain ⟨j, hj, rfl⟩ := List.getElem_of_mem hx
          rw [← eAt_in hj]
          exact HSm.out j (by rw [← HN.out] at hj; omega)
        go_wp2
        go_ret
        exact ⟨⟨lf, rfl, .inr ⟨hlf, by omega, HAll.out⟩⟩, hbel⟩

theorem toCondS_ex (a : Option Addr) (cap : Nat) (L : List C11) (w : World) (hr : RdCond w a L) (hn : L.length ≤ 1048576) :
    Calls Try.prog 58 #[.slice a L.length cap] w fun e w' =>
      ∃ g, e = .returned (.slice (some ⟨g, 0, none⟩) L.length L.length) ∧ w.heap.size ≤ g ∧ OwnCond w' g L.length L ∧ Below w.heap.size w w' :=
  (toCondS_at a cap L w hr hn).mono fun e w' h => ⟨w.heap.size, h.1, Nat.le_refl _, OwnK.of C11.len (by decide) h.2.1, h.2.2⟩

theorem keepCond {w0 W w' : World} {B : Nat} {p0 p1 p2 p3 p4 p5 p6 p7 p8 p9 p10 p11 p12 p13 p14 p15 p16 p17 p18 p19 p20 p21 : Addr} {v0 v1 v2 v3 v4 v5 v6 v7 v8 v9 v10 v11 v12 v13 v14 v15 v16 v17 v18 v19 v20 v21 : Value} (hb : Below W.heap.size W w')
    (h : W.cell? p0 = some v0 ∧ W.cell? p1 = some v1 ∧ W.cell? p2 = some v2 ∧ W.cell? p3 = some v3 ∧ W.cell? p4 = some v4 ∧ W.cell? p5 = some v5 ∧ W.cell? p6 = some v6 ∧ W.cell? p7 = some v7 ∧ W.cell? p8 = some v8 ∧ W.cell? p9 = some v9 ∧ W.cell? p10 = some v10 ∧ W.cell? p11 = some v11 ∧ W.cell? p12 = some v12 ∧ W.cell? p13 = some v13 ∧ W.cell? p14 = some v14 ∧ W.cell? p15 = some v15 ∧ W.cell? p16 = some v16 ∧ W.cell? p17 = some v17 ∧ W.cell? p18 = some v18 ∧ W.cell? p19 = some v19 ∧ W.cell? p20 = some v20 ∧ W.cell? p21 = some v21 ∧ Below B w0 W ∧ B ≤ W.heap.size) :
    w'.cell? p0 = some v0 ∧ w'.cell? p1 = some v1 ∧ w'.cell? p2 = some v2 ∧ w'.cell? p3 = some v3 ∧ w'.cell? p4 = some v4 ∧ w'.cell? p5 = some v5 ∧ w'.cell? p6 = some v6 ∧ w'.cell? p7 = some v7 ∧ w'.cell? p8 = some v8 ∧ w'.cell? p9 = some v9 ∧ w'.cell? p10 = some v10 ∧ w'.cell? p11 = some v11 ∧ w'.cell? p12 = some v12 ∧ w'.cell? p13 = some v13 ∧ w'.cell? p14 = some v14 ∧ w'.cell? p15 = some v15 ∧ w'.cell? p16 = some v16 ∧ w'.cell? p17 = some v17 ∧ w'.cell? p18 = some v18 ∧ w'.cell? p19 = some v19 ∧ w'.cell? p20 = some v20 ∧ w'.cell? p21 = some v21 ∧ Below B w0 w' ∧ B ≤ w'.heap.size := by
  obtain ⟨q0, q1, q2, q3, q4, q5, q6, q7, q8, q9, q10, q11, q12, q13, q14, q15, q16, q17, q18, q19, q20, q21, h6, h7⟩ := h
  have k : ∀ {a : Addr} {v : Value}, W.cell? a = some v → w'.cell? a = some v := fun {a v} h => by rw [hb.cell (World.block_lt_of_cell? W _ h)]; exact h
  exact ⟨k q0, k q1, k q2, k q3, k q4, k q5, k q6, k q7, k q8, k q9, k q10, k q11, k q12, k q13, k q14, k q15, k q16, k q17, k q18, k q19, k q20, k q21, h6.trans (hb.mono h7), Nat.le_trans h7 hb.size⟩
set_option maxRecDepth 100000 in
set_option maxHeartbeats 3200000 in
theorem eqCondS_same (a b : Option Addr) (ca cb : Nat) (L : List C11) (w : World) (hr : RdCond w a L) (hq : RdCond w b L) (hm : L.length ≤ 2097152) :
    Calls Try.prog 61 #[.slice a L.length ca, .slice b L.length cb] w fun e w' =>
      e = .returned (.bool true) ∧ Below w.heap.size w w' := by
  obtain ⟨n, hN⟩ : ∃ n, n = L.length := ⟨_, rfl⟩
  rw [← hN] at hm ⊢
  have HN := hide hN
  clear hN
  have hnn : ((n : Int) != (n : Int)) = false := by simp
  go_enter Try.func61, Try.ntmps61
  go_wp2
  go_loopw [5] (fun i wr => ∃ (k : Nat), k ≤ n ∧ i = .int .i64 k ∧ Below w.heap.size w wr) (fun i _ => n - (intOf i).toNat)
  case atStart => exact ⟨0, Nat.zero_le _, rfl, Below.refl _ _⟩
  case round =>
    obtain ⟨k, hk, rfl, hbel⟩ := hrel
    by_cases hlt : k < n
    · obtain ⟨b1, o1, e1, hbw1, hc1⟩ := RdCond.cells hr (by rw [← HN.out]; omega)
      obtain ⟨b2, o2, e2, hbw2, hc2⟩ := RdCond.cells hq (by rw [← HN.out]; omega)
      obtain ⟨c0, c1, c2, c3, c4, c5, c6, c7, c8, c9, c10⟩ := hc1 k (by rw [← HN.out]; exact hlt)
      obtain ⟨d0, d1, d2, d3, d4, d5, d6, d7, d8, d9, d10⟩ := hc2 k (by rw [← HN.out]; exact hlt)
      clear hc1 hc2
      subst e1 e2
      rw [← hbel.cell (p := ⟨b1, o1 + k * 11, none⟩) hbw1] at c0
      rw [← hbel.cell (p := ⟨b2, o2 + k * 11, none⟩) hbw2] at d0
      rw [← hbel.cell (p := ⟨b1, o1 + k * 11 + 1, none⟩) hbw1] at c1
      rw [← hbel.cell (p := ⟨b2, o2 + k * 11 + 1, none⟩) hbw2] at d1
      rw [← hbel.cell (p := ⟨b1, o1 + k * 11 + 2, none⟩) hbw1] at c2
      rw [← hbel.cell (p := ⟨b2, o2 + k * 11 + 2, none⟩) hbw2] at d2
      rw [← hbel.cell (p := ⟨b1, o1 + k * 11 + 3, none⟩) hbw1] at c3
      rw [← hbel.cell (p := ⟨b2, o2 + k * 11 + 3, none⟩) hbw2] at d3
      rw [← hbel.cell (p := ⟨b1, o1 + k * 11 + 4, none⟩) hbw1] at c4
      rw [← hbel.cell (p := ⟨b2, o2 + k * 11 + 4, none⟩) hbw2] at d4
      rw [← hbel.cell (p := ⟨b1, o1 + k * 11 + 5, none⟩) hbw1] at c5
      rw [← hbel.cell (p := ⟨b2, o2 + k * 11 + 5, none⟩) hbw2] at d5
      rw [← hbel.cell (p := ⟨b1, o1 + k * 11 + 6, none⟩) hbw1] at c6
      rw [← hbel.cell (p := ⟨b2, o2 + k * 11 + 6, none⟩) hbw2] at d6
      rw [← hbel.cell (p := ⟨b1, o1 + k * 11 + 7, none⟩) hbw1] at c7
      rw [← hbel.cell (p := ⟨b2, o2 + k * 11 + 7, none⟩) hbw2] at d7
      rw [← hbel.cell (p := ⟨b1, o1 + k * 11 + 8, none⟩) hbw1] at c8
      rw [← hbel.cell (p := ⟨b2, o2 + k * 11 + 8, none⟩) hbw2] at d8
      rw [← hbel.cell (p := ⟨b1, o1 + k * 11 + 9, none⟩) hbw1] at c9
      rw [← hbel.cell (p := ⟨b2, o2 + k * 11 + 9, none⟩) hbw2] at d9
      rw [← hbel.cell (p := ⟨b1, o1 + k * 11 + 10, none⟩) hbw1] at c10
      rw [← hbel.cell (p := ⟨b2, o2 + k * 11 + 10, none⟩) hbw2] at d10
      generalize (eAt L k).Op = Op at c0 d0
      generalize (eAt L k).L.K = LK at c1 d1
      generalize (eAt L k).L.S = LS at c2 d2
      generalize (eAt L k).L.V.K = LVK at c3 d3
      generalize (eAt L k).L.V.N = LVN at c4 d4
      generalize (eAt L k).L.V.S = LVS at c5 d5
      generalize (eAt L k).R.K = RK at c6 d6
      generalize (eAt L k).R.S = RS at c7 d7
      generalize (eAt L k).R.V.K = RVK at c8 d8
      generalize (eAt L k).R.V.N = RVN at c9 d9
      generalize (eAt L k).R.V.S = RVS at c10 d10
      go_wp2_with fail
      go_region_held3 (fun W => W.cell? ⟨b1, o1 + k * 11, none⟩ = some (.int .i64 Op) ∧ W.cell? ⟨b1, o1 + k * 11 + 1, none⟩ = some (.int .i64 LK) ∧ W.cell? ⟨b1, o1 + k * 11 + 2, none⟩ = some (.string LS) ∧ W.cell? ⟨b1, o1 + k * 11 + 3, none⟩ = some (.int .i64 LVK) ∧ W.cell? ⟨b1, o1 + k * 11 + 4, none⟩ = some (.int .i64 LVN) ∧ W.cell? ⟨b1, o1 + k * 11 + 5, none⟩ = some (.string LVS) ∧ W.cell? ⟨b1, o1 + k * 11 + 6, none⟩ = some (.int .i64 RK) ∧ W.cell? ⟨b1, o1 + k * 11 + 7, none⟩ = some (.string RS) ∧ W.cell? ⟨b1, o1 + k * 11 + 8, none⟩ = some (.int .i64 RVK) ∧ W.cell? ⟨b1, o1 + k * 11 + 9, none⟩ = some (.int .i64 RVN) ∧ W.cell? ⟨b1, o1 + k * 11 + 10, none⟩ = some (.string RVS) ∧ W.cell? ⟨b2, o2 + k * 11, none⟩ = some (.int .i64 Op) ∧ W.cell? ⟨b2, o2 + k * 11 + 1, none⟩ = some (.int .i64 LK) ∧ W.cell? ⟨b2, o2 + k * 11 + 2, none⟩ = some (.string LS) ∧ W.cell? ⟨b2, o2 + k * 11 + 3, none⟩ = some (.int .i64 LVK) ∧ W.cell? ⟨b2, o2 + k * 11 + 4, none⟩ = some (.int .i64 LVN) ∧ W.cell? ⟨b2, o2 + k * 11 + 5, none⟩ = some (.string LVS) ∧ W.cell? ⟨b2, o2 + k * 11 + 6, none⟩ = some (.int .i64 RK) ∧ W.cell? ⟨b2, o2 + k * 11 + 7, none⟩ = some (.string RS) ∧ W.cell? ⟨b2, o2 + k * 11 + 8, none⟩ = some (.int .i64 RVK) ∧ W.cell? ⟨b2, o2 + k * 11 + 9, none⟩ = some (.int .i64 RVN) ∧ W.cell? ⟨b2, o2 + k * 11 + 10, none⟩ = some (.string RVS) ∧ Below w.heap.size w W ∧ w.heap.size ≤ W.heap.size) (first | exact ⟨c0, c1, c2, c3, c4, c5, c6, c7, c8, c9, c10, d0, d1, d2, d3, d4, d5, d6, d7, d8, d9, d10, hbel.drew, hbel.size⟩ | exact keepCond (by assumption) (by assumption))
        (first | (go_at_call 84; refine (eqCond_same _ _ _ _ _ _ _ _ _ _ _ _).mono ?_; rintro e w2 ⟨rfl, hb⟩))
      all_goals
        obtain ⟨-, -, -, -, -, -, -, -, -, -, -, -, -, -, -, -, -, -, -, -, -, -, hB2, -⟩ : w2.cell? ⟨b1, o1 + k * 11, none⟩ = some (.int .i64 Op) ∧ w2.cell? ⟨b1, o1 + k * 11 + 1, none⟩ = some (.int .i64 LK) ∧ w2.cell? ⟨b1, o1 + k * 11 + 2, none⟩ = some (.string LS) ∧ w2.cell? ⟨b1, o1 + k * 11 + 3, none⟩ = some (.int .i64 LVK) ∧ w2.cell? ⟨b1, o1 + k * 11 + 4, none⟩ = some (.int .i64 LVN) ∧ w2.cell? ⟨b1, o1 + k * 11 + 5, none⟩ = some (.string LVS) ∧ w2.cell? ⟨b1, o1 + k * 11 + 6, none⟩ = some (.int .i64 RK) ∧ w2.cell? ⟨b1, o1 + k * 11 + 7, none⟩ = some (.string RS) ∧ w2.cell? ⟨b1, o1 + k * 11 + 8, none⟩ = some (.int .i64 RVK) ∧ w2.cell? ⟨b1, o1 + k * 11 + 9, none⟩ = some (.int .i64 RVN) ∧ w2.cell? ⟨b1, o1 + k * 11 + 10, none⟩ = some (.string RVS) ∧ w2.cell? ⟨b2, o2 + k * 11, none⟩ = some (.int .i64 Op) ∧ w2.cell? ⟨b2, o2 + k * 11 + 1, none⟩ = some (.int .i64 LK) ∧ w2.cell? ⟨b2, o2 + k * 11 + 2, none⟩ = some (.string LS) ∧ w2.cell? ⟨b2, o2 + k * 11 + 3, none⟩ = some (.int .i64 LVK) ∧ w2.cell? ⟨b2, o2 + k * 11 + 4, none⟩ = some (.int .i64 LVN) ∧ w2.cell? ⟨b2, o2 + k * 11 + 5, none⟩ = some (.string LVS) ∧ w2.cell? ⟨b2, o2 + k * 11 + 6, none⟩ = some (.int .i64 RK) ∧ w2.cell? ⟨b2, o2 + k * 11 + 7, none⟩ = some (.string RS) ∧ w2.cell? ⟨b2, o2 + k * 11 + 8, none⟩ = some (.int .i64 RVK) ∧ w2.cell? ⟨b2, o2 + k * 11 + 9, none⟩ = some (.int .i64 RVN) ∧ w2.cell? ⟨b2, o2 + k * 11 + 10, none⟩ = some (.string RVS) ∧ Below w.heap.size w w2 ∧ w.heap.size ≤ w2.heap.size := by assumption
        go_wp2
        go_roundw
        case rel => exact ⟨k + 1, by omega, by go_num, hB2⟩
        case measure => simp [intOf]; omega
    · go_wp2
      go_ret
      exact ⟨rfl, hbel⟩
end Go.Proofs.Ytcfhpcbkdpgboaa
/-
  The contracts of the laws' own markers on facts: markFact writes numbers and texts into a row of values of the calls' own and touches no other block that was there.
-/
namespace Go.Proofs.Ytcfhpcbkdpgboaa
open Go.RowKit
set_option linter.unusedVariables false

/-- the bytes of a mark's digits -/
def markL (fuel n : Nat) (r : List UInt8) : List UInt8 := match fuel with
  | 0 => r
  | f + 1 => if n = 0 then r else markL f (n / 10) (UInt8.ofNat (48 + n % 10) :: r)
def markT (k : Nat) : ByteArray := if k = 0 then ⟨#[109, 48]⟩ else ⟨#[109]⟩ ++ ⟨(markL 20 k []).toArray⟩
theorem markL_stop (n : Nat) (r : List UInt8) : ∀ f, n = 0 → markL f n r = r
  | 0, _ => rfl
  | f + 1, h => by unfold markL; rw [if_pos h]
theorem markL_step {f n : Nat} {r : List UInt8} (h : n ≠ 0) : markL (f + 1) n r = markL f (n / 10) (UInt8.ofNat (48 + n % 10) :: r) := by
  show (if n = 0 then _ else _) = _; rw [if_neg h]

theorem conv_1 (q : Nat) (c : UInt8) (d : Int) (hd : d = (c.toNat : Int)) (W : World) (h : W.cell? ⟨q, 0, none⟩ = some (.int .u8 d)) :
    (convert 34 9 (.slice (some ⟨q, 0, none⟩) 1 1)).run Try.prog W = .ok (.string ⟨#[c]⟩) W := by
  subst hd
  have := run_convert_bytes_back (P := Try.prog) W 34 9 5 ⟨q, 0, none⟩ 1 [c] Try.underlying34 Try.underlying5 Try.underlying9 (fun j hj => by
    obtain rfl : j = 0 := by simpa using hj
    rw [Addr.add_lit, Nat.add_zero, h]
    simp)
  simpa using this
theorem cell_1 (w : World) (c : Value) (T : TypeId) : (w.alloc (.cells #[c] T)).cell? ⟨w.heap.size, 0, none⟩ = some c := by
  rw [cell_of_row _ w.heap.size 0 _ T (0, 0) (heap_alloc_new w _)]; rfl
theorem app_1 (c : UInt8) (s : ByteArray) : ((⟨#[c]⟩ : ByteArray) ++ s).data.toList = c :: s.data.toList ∧ ((⟨#[c]⟩ : ByteArray) ++ s).size = s.size + 1 := by
  constructor
  · simp
  · rw [ByteArray.size_append]; show 1 + s.size = _; omega

/-- the row's k-th value is marked -/
def markV (k : Nat) : V3 := ⟨(k : Int), ((k + 1 : Nat) : Int), markT (k + 2)⟩
def marksV (k n : Nat) : List V3 := (List.range n).map fun i => markV (k + 3 * i)
theorem marksV_length (k n : Nat) : (marksV k n).length = n := by simp [marksV]
theorem marksV_succ (k n : Nat) : marksV k (n + 1) = marksV k n ++ [markV (k + 3 * n)] := by simp [marksV, List.range_succ]
def partM (L : List V3) (k j : Nat) : List V3 := marksV k j ++ L.drop j
theorem partM_end {L : List V3} {k j : Nat} (h : L.length ≤ j) : partM L k j = marksV k j := by unfold partM; rw [List.drop_eq_nil_of_le h, List.append_nil]
theorem partM_length {L : List V3} {k j : Nat} (h : j ≤ L.length) : (partM L k j).length = L.length := by unfold partM; rw [List.length_append, marksV_length, List.length_drop]; omega
theorem partM_set {L : List V3} {k j : Nat} (h : j < L.length) :
    (((cells3 (partM L k j)).set (j * 3) (.int .i64 (markV (k + 3 * j)).K)).set (j * 3 + 1) (.int .i64 (markV (k + 3 * j)).N)).set (j * 3 + 2) (.string (markV (k + 3 * j)).S) = cells3 (partM L k (j + 1)) := by
  have h1 : partM L k j = marksV k j ++ L[j] :: L.drop (j + 1) := by unfold partM; rw [List.drop_eq_getElem_cons h]
  have h2 : partM L k (j + 1) = marksV k j ++ markV (k + 3 * j) :: L.drop (j + 1) := by unfold partM; rw [marksV_succ, List.append_assoc]; rfl
  have := cells3_set (marksV k j) (L.drop (j + 1)) (markV (k + 3 * j)) L[j]
  rw [marksV_length] at this
  rw [h1, h2]; exact this

end Go.Proofs.Ytcfhpcbkdpgboaa
/-
  The contracts of the laws' own marks on rows of Args.
-/
namespace Go.Proofs.Ytcfhpcbkdpgboaa
open Go.RowKit
set_option linter.unusedVariables false

def markA5 (k : Nat) : A5 := ⟨(k : Int), markT (k + 1), ⟨((k + 2 : Nat) : Int), ((k + 3 : Nat) : Int), markT (k + 4)⟩⟩
def marksA5 (k n : Nat) : List A5 := (List.range n).map fun i => markA5 (k + 5 * i)
theorem marksA5_length (k n : Nat) : (marksA5 k n).length = n := by simp [marksA5]
theorem marksA5_at {k n i : Nat} (h : i < n) : eAt (marksA5 k n) i = markA5 (k + 5 * i) := by rw [eAt_in (by rw [marksA5_length]; exact h)]; simp [marksA5]

end Go.Proofs.Ytcfhpcbkdpgboaa
/-
  The laws' own marks on rows of Pats: they write into that row and its elements' lists alone.
-/
namespace Go.Proofs.Ytcfhpcbkdpgboaa
open Go.RowKit
set_option linter.unusedVariables false

def PE.wt (x : PE) : Nat := 2 + 5 * x.L.length
theorem PE.wt_sz (x : PE) : x.wt ≤ 5 * (x.sz + 1) := by unfold PE.wt PE.sz; omega
/-- the row, but for what of the j-th element is no list -/
def HoldPE (W : World) (g cp n : Nat) (K : List PE) (j : Nat) : Prop := ∃ KC, KC.length = n ∧ W.ownsRow 0 47 3 (.slice (some ⟨g, 0, none⟩) n cp) n (rowOf PE.cs KC) ∧ (eAt KC j).a = (eAt K j).a ∧ (eAt KC j).cap = (eAt K j).cap ∧ (eAt KC j).L = (eAt K j).L ∧ ∀ i, j + 1 ≤ i → i < n → eAt KC i = eAt K i
section
variable {W W' : World} {g cp n j : Nat} {K : List PE}
theorem HoldPE.cell (h : HoldPE W g cp n K j) (o : Nat) (ho : o < 3) (hj : j < n) : ∃ u, W.cell? ⟨g, j * 3 + o, none⟩ = some u := by
  obtain ⟨KC, hl, hw, -⟩ := h
  rw [hw.cellAt (j * 3 + o) (by omega), List.getElem?_eq_getElem (by rw [rowOf_length PE.len, hl]; omega)]
  exact ⟨_, rfl⟩
theorem HoldPE.frozen (h : HoldPE W g cp n K j) (p : Nat) : W.frozen? ⟨g, p, none⟩ = false := by obtain ⟨KC, hl, hw, -⟩ := h; exact hw.frozenAt p
theorem HoldPE.list (h : HoldPE W g cp n K j) (hj : j < n) : W.cell? ⟨g, j * 3 + 1, none⟩ = some (.slice (eAt K j).a (eAt K j).L.length (eAt K j).cap) := by
  obtain ⟨KC, hl, hw, e1, e2, e3, -⟩ := h
  have hg := rowOf_get PE.len KC j 1 (by rw [hl]; exact hj) (by omega)
  rw [hw.cellAt (j * 3 + 1) (by omega), hg, ← eAt_in (by rw [hl]; exact hj), ← e1, ← e2, ← e3]
  rfl
theorem HoldPE.later (h : HoldPE W g cp n K j) (hb : Below W.heap.size W W') : HoldPE W' g cp n K j := by obtain ⟨KC, hl, hw, r⟩ := h; exact ⟨KC, hl, ownsRow_below' hw hb, r⟩
theorem HoldPE.other (h : HoldPE W g cp n K j) {q : Nat} (hg : W.grownBy W' (some q)) (hq : g ≠ q) : HoldPE W' g cp n K j := by obtain ⟨KC, hl, hw, r⟩ := h; exact ⟨KC, hl, World.ownsRow.kept hw hg (.inr (by simp [Value.ownBlock]; exact hq)), r⟩
theorem HoldPE.lt (h : HoldPE W g cp n K j) : g < W.heap.size := by obtain ⟨KC, hl, hw, r⟩ := h; exact (hw.lt g rfl).2
theorem HoldPE.set_kd (h : HoldPE W g cp n K j) (hj : j < n) (v : ByteArray) : HoldPE (W.setCell ⟨g, j * 3, none⟩ (.string v)) g cp n K j ∧ W.grownBy (W.setCell ⟨g, j * 3, none⟩ (.string v)) (some g) := by
  obtain ⟨KC, hl, hw, e1, e2, e3, r⟩ := h
  have s := hw.stored (j * 3) (.string v)
  rw [rowOf_set_PE_kd v KC j (by rw [hl]; exact hj)] at s
  refine ⟨⟨_, by rw [List.length_set, hl], s.1, ?_, ?_, ?_, fun i h1 h2 => ?_⟩, s.2⟩
  · rw [eAt_set (by rw [hl]; exact hj), if_pos rfl]; exact e1
  · rw [eAt_set (by rw [hl]; exact hj), if_pos rfl]; exact e2
  · rw [eAt_set (by rw [hl]; exact hj), if_pos rfl]; exact e3
  · rw [eAt_set (by rw [hl]; exact hj), if_neg (by omega)]; exact r i h1 h2
theorem HoldPE.set_nt (h : HoldPE W g cp n K j) (hj : j < n) (v : Bool) : HoldPE (W.setCell ⟨g, j * 3 + 2, none⟩ (.bool v)) g cp n K j ∧ W.grownBy (W.setCell ⟨g, j * 3 + 2, none⟩ (.bool v)) (some g) := by
  obtain ⟨KC, hl, hw, e1, e2, e3, r⟩ := h
  have s := hw.stored (j * 3 + 2) (.bool v)
  rw [rowOf_set_PE_nt v KC j (by rw [hl]; exact hj)] at s
  refine ⟨⟨_, by rw [List.length_set, hl], s.1, ?_, ?_, ?_, fun i h1 h2 => ?_⟩, s.2⟩
  · rw [eAt_set (by rw [hl]; exact hj), if_pos rfl]; exact e1
  · rw [eAt_set (by rw [hl]; exact hj), if_pos rfl]; exact e2
  · rw [eAt_set (by rw [hl]; exact hj), if_pos rfl]; exact e3
  · rw [eAt_set (by rw [hl]; exact hj), if_neg (by omega)]; exact r i h1 h2
theorem HoldPE.start {w : World} {lo hi : Nat} {s : Nat → Nat} (h : MkD 47 PE.cs 3 InPat w lo hi g cp K s j W) (hj : j < K.length) : HoldPE W g cp K.length K j := by
  obtain ⟨KC, hl, hw, r⟩ := h.row
  have e := r j (Nat.le_refl _) hj
  rw [OwnK, hl] at hw
  exact ⟨KC, hl, hw, by rw [e], by rw [e], by rw [e], fun i h1 h2 => r i (by omega) h2⟩
theorem HoldPE.fin (h : HoldPE W g cp K.length K j) : ∃ K', K'.length = K.length ∧ OwnK 47 PE.cs 3 W g cp K' ∧ ∀ i, j + 1 ≤ i → i < K.length → eAt K' i = eAt K i := by
  obtain ⟨KC, hl, hw, -, -, -, r⟩ := h
  exact ⟨KC, hl, by rw [OwnK, hl]; exact hw, r⟩
end

end Go.Proofs.Ytcfhpcbkdpgboaa
/-
  The contracts of the laws' own marks on rows of Exprs.
-/
namespace Go.Proofs.Ytcfhpcbkdpgboaa
open Go.RowKit
set_option linter.unusedVariables false

def markX11 (k : Nat) : X11 := ⟨markT k, ⟨((k + 1 : Nat) : Int), markT (k + 2), ⟨((k + 3 : Nat) : Int), ((k + 4 : Nat) : Int), markT (k + 5)⟩⟩, ⟨((k + 6 : Nat) : Int), markT (k + 7), ⟨((k + 8 : Nat) : Int), ((k + 9 : Nat) : Int), markT (k + 10)⟩⟩⟩
def marksX11 (k n : Nat) : List X11 := (List.range n).map fun i => markX11 (k + 11 * i)
theorem marksX11_length (k n : Nat) : (marksX11 k n).length = n := by simp [marksX11]
theorem marksX11_at {k n i : Nat} (h : i < n) : eAt (marksX11 k n) i = markX11 (k + 11 * i) := by rw [eAt_in (by rw [marksX11_length]; exact h)]; simp [marksX11]

end Go.Proofs.Ytcfhpcbkdpgboaa
/-
  The laws' own marks on rows of Acts: they write into that row and its elements' lists alone.
-/
namespace Go.Proofs.Ytcfhpcbkdpgboaa
open Go.RowKit
set_option linter.unusedVariables false

def QE.wt (x : QE) : Nat := 4 + 11 * x.L.length
theorem QE.wt_sz (x : QE) : x.wt ≤ 11 * (x.sz + 1) := by unfold QE.wt QE.sz; omega
/-- the row, but for what of the j-th element is no list -/
def HoldQE (W : World) (g cp n : Nat) (K : List QE) (j : Nat) : Prop := ∃ KC, KC.length = n ∧ W.ownsRow 0 88 5 (.slice (some ⟨g, 0, none⟩) n cp) n (rowOf QE.cs KC) ∧ (eAt KC j).a = (eAt K j).a ∧ (eAt KC j).cap = (eAt K j).cap ∧ (eAt KC j).L = (eAt K j).L ∧ ∀ i, j + 1 ≤ i → i < n → eAt KC i = eAt K i
section
variable {W W' : World} {g cp n j : Nat} {K : List QE}
theorem HoldQE.cell (h : HoldQE W g cp n K j) (o : Nat) (ho : o < 5) (hj : j < n) : ∃ u, W.cell? ⟨g, j * 5 + o, none⟩ = some u := by
  obtain ⟨KC, hl, hw, -⟩ := h
  rw [hw.cellAt (j * 5 + o) (by omega), List.getElem?_eq_getElem (by rw [rowOf_length QE.len, hl]; omega)]
  exact ⟨_, rfl⟩
theorem HoldQE.frozen (h : HoldQE W g cp n K j) (p : Nat) : W.frozen? ⟨g, p, none⟩ = false := by obtain ⟨KC, hl, hw, -⟩ := h; exact hw.frozenAt p
theorem HoldQE.list (h : HoldQE W g cp n K j) (hj : j < n) : W.cell? ⟨g, j * 5 + 2, none⟩ = some (.slice (eAt K j).a (eAt K j).L.length (eAt K j).cap) := by
  obtain ⟨KC, hl, hw, e1, e2, e3, -⟩ := h
  have hg := rowOf_get QE.len KC j 2 (by rw [hl]; exact hj) (by omega)
  rw [hw.cellAt (j * 5 + 2) (by omega), hg, ← eAt_in (by rw [hl]; exact hj), ← e1, ← e2, ← e3]
  rfl
theorem HoldQE.later (h : HoldQE W g cp n K j) (hb : Below W.heap.size W W') : HoldQE W' g cp n K j := by obtain ⟨KC, hl, hw, r⟩ := h; exact ⟨KC, hl, ownsRow_below' hw hb, r⟩
theorem HoldQE.other (h : HoldQE W g cp n K j) {q : Nat} (hg : W.grownBy W' (some q)) (hq : g ≠ q) : HoldQE W' g cp n K j := by obtain ⟨KC, hl, hw, r⟩ := h; exact ⟨KC, hl, World.ownsRow.kept hw hg (.inr (by simp [Value.ownBlock]; exact hq)), r⟩
theorem HoldQE.lt (h : HoldQE W g cp n K j) : g < W.heap.size := by obtain ⟨KC, hl, hw, r⟩ := h; exact (hw.lt g rfl).2
theorem HoldQE.set_K (h : HoldQE W g cp n K j) (hj : j < n) (v : Int) : HoldQE (W.setCell ⟨g, j * 5, none⟩ (.int .i64 v)) g cp n K j ∧ W.grownBy (W.setCell ⟨g, j * 5, none⟩ (.int .i64 v)) (some g) := by
  obtain ⟨KC, hl, hw, e1, e2, e3, r⟩ := h
  have s := hw.stored (j * 5) (.int .i64 v)
  rw [rowOf_set_QE_K v KC j (by rw [hl]; exact hj)] at s
  refine ⟨⟨_, by rw [List.length_set, hl], s.1, ?_, ?_, ?_, fun i h1 h2 => ?_⟩, s.2⟩
  · rw [eAt_set (by rw [hl]; exact hj), if_pos rfl]; exact e1
  · rw [eAt_set (by rw [hl]; exact hj), if_pos rfl]; exact e2
  · rw [eAt_set (by rw [hl]; exact hj), if_pos rfl]; exact e3
  · rw [eAt_set (by rw [hl]; exact hj), if_neg (by omega)]; exact r i h1 h2
theorem HoldQE.set_nm (h : HoldQE W g cp n K j) (hj : j < n) (v : ByteArray) : HoldQE (W.setCell ⟨g, j * 5 + 1, none⟩ (.string v)) g cp n K j ∧ W.grownBy (W.setCell ⟨g, j * 5 + 1, none⟩ (.string v)) (some g) := by
  obtain ⟨KC, hl, hw, e1, e2, e3, r⟩ := h
  have s := hw.stored (j * 5 + 1) (.string v)
  rw [rowOf_set_QE_nm v KC j (by rw [hl]; exact hj)] at s
  refine ⟨⟨_, by rw [List.length_set, hl], s.1, ?_, ?_, ?_, fun i h1 h2 => ?_⟩, s.2⟩
  · rw [eAt_set (by rw [hl]; exact hj), if_pos rfl]; exact e1
  · rw [eAt_set (by rw [hl]; exact hj), if_pos rfl]; exact e2
  · rw [eAt_set (by rw [hl]; exact hj), if_pos rfl]; exact e3
  · rw [eAt_set (by rw [hl]; exact hj), if_neg (by omega)]; exact r i h1 h2
theorem HoldQE.set_N (h : HoldQE W g cp n K j) (hj : j < n) (v : Int) : HoldQE (W.setCell ⟨g, j * 5 + 3, none⟩ (.int .i64 v)) g cp n K j ∧ W.grownBy (W.setCell ⟨g, j * 5 + 3, none⟩ (.int .i64 v)) (some g) := by
  obtain ⟨KC, hl, hw, e1, e2, e3, r⟩ := h
  have s := hw.stored (j * 5 + 3) (.int .i64 v)
  rw [rowOf_set_QE_N v KC j (by rw [hl]; exact hj)] at s
  refine ⟨⟨_, by rw [List.length_set, hl], s.1, ?_, ?_, ?_, fun i h1 h2 => ?_⟩, s.2⟩
  · rw [eAt_set (by rw [hl]; exact hj), if_pos rfl]; exact e1
  · rw [eAt_set (by rw [hl]; exact hj), if_pos rfl]; exact e2
  · rw [eAt_set (by rw [hl]; exact hj), if_pos rfl]; exact e3
  · rw [eAt_set (by rw [hl]; exact hj), if_neg (by omega)]; exact r i h1 h2
theorem HoldQE.set_un (h : HoldQE W g cp n K j) (hj : j < n) (v : ByteArray) : HoldQE (W.setCell ⟨g, j * 5 + 4, none⟩ (.string v)) g cp n K j ∧ W.grownBy (W.setCell ⟨g, j * 5 + 4, none⟩ (.string v)) (some g) := by
  obtain ⟨KC, hl, hw, e1, e2, e3, r⟩ := h
  have s := hw.stored (j * 5 + 4) (.string v)
  rw [rowOf_set_QE_un v KC j (by rw [hl]; exact hj)] at s
  refine ⟨⟨_, by rw [List.length_set, hl], s.1, ?_, ?_, ?_, fun i h1 h2 => ?_⟩, s.2⟩
  · rw [eAt_set (by rw [hl]; exact hj), if_pos rfl]; exact e1
  · rw [eAt_set (by rw [hl]; exact hj), if_pos rfl]; exact e2
  · rw [eAt_set (by rw [hl]; exact hj), if_pos rfl]; exact e3
  · rw [eAt_set (by rw [hl]; exact hj), if_neg (by omega)]; exact r i h1 h2
theorem HoldQE.start {w : World} {lo hi : Nat} {s : Nat → Nat} (h : MkD 88 QE.cs 5 InAct w lo hi g cp K s j W) (hj : j < K.length) : HoldQE W g cp K.length K j := by
  obtain ⟨KC, hl, hw, r⟩ := h.row
  have e := r j (Nat.le_refl _) hj
  rw [OwnK, hl] at hw
  exact ⟨KC, hl, hw, by rw [e], by rw [e], by rw [e], fun i h1 h2 => r i (by omega) h2⟩
theorem HoldQE.fin (h : HoldQE W g cp K.length K j) : ∃ K', K'.length = K.length ∧ OwnK 88 QE.cs 5 W g cp K' ∧ ∀ i, j + 1 ≤ i → i < K.length → eAt K' i = eAt K i := by
  obtain ⟨KC, hl, hw, -, -, -, r⟩ := h
  exact ⟨KC, hl, by rw [OwnK, hl]; exact hw, r⟩
end

end Go.Proofs.Ytcfhpcbkdpgboaa
/-
  The contracts of the laws' own marks on rows of Conds.
-/
namespace Go.Proofs.Ytcfhpcbkdpgboaa
open Go.RowKit
set_option linter.unusedVariables false

def markC11 (k : Nat) : C11 := ⟨(k : Int), ⟨((k + 1 : Nat) : Int), markT (k + 2), ⟨((k + 3 : Nat) : Int), ((k + 4 : Nat) : Int), markT (k + 5)⟩⟩, ⟨((k + 6 : Nat) : Int), markT (k + 7), ⟨((k + 8 : Nat) : Int), ((k + 9 : Nat) : Int), markT (k + 10)⟩⟩⟩
def marksC11 (k n : Nat) : List C11 := (List.range n).map fun i => markC11 (k + 11 * i)
theorem marksC11_length (k n : Nat) : (marksC11 k n).length = n := by simp [marksC11]
theorem marksC11_at {k n i : Nat} (h : i < n) : eAt (marksC11 k n) i = markC11 (k + 11 * i) := by rw [eAt_in (by rw [marksC11_length]; exact h)]; simp [marksC11]

end Go.Proofs.Ytcfhpcbkdpgboaa
