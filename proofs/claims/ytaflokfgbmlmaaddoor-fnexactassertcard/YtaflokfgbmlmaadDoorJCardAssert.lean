/-
  Proved: the row on Assert (for every store and every fact the law answers true, and both read as they did, where the library's tables read as listed), and its tied card (what is listed is what the program's own text lays).
-/
import Derived.Test.YtaflokfgbmlmaadDoorJAssI
import Derived.Test.YtaflokfgbmlmaadDoorJHeldSt
import Derived.Test.YtaflokfgbmlmaadDoorJoined2
import Derived.Test.YtaflokfgbmlmaadDoorJMarkSx
import Derived.Test.YtaflokfgbmlmaadDoorJCardTab
import Derived.Deep.DeepCutAuto
import Derived.Deep.RegionHeld3
namespace Go.Proofs.YtaflokfgbmlmaadDoor.CardAssert
open Go.ChangeShapes Go.WideShapes Go.ChangeAt Go.RowKit Go.Joins
open Go.ChangeMaps (open_string shut_string)
set_option linter.unusedVariables false
set_option maxRecDepth 100000

theorem tab_of {r : List (String × DataW Unit)} {a b : String × DataW Unit} {W : World} (h : laidMet Tryd.prog (a :: b :: ("internal/strconv.uint64pow10", Rows.laid_internal_strconv_uint64pow10) :: r) W) : Tab W := tabs_of h
theorem okI_pl {J K : List It} (h : K.map It.pl = J.map It.pl) (hs : ∀ i, i < J.length → okI (iAt J i)) : ∀ i, i < K.length → okI (iAt K i) := fun i hi => by
  obtain ⟨-, e2, e3⟩ := pl_at h hi
  have := hs i (by rw [← pl_len h]; exact hi)
  unfold okI at *
  rw [e2, e3]; exact this
theorem asR_pl {nx : Int} {J K : List It} {kd : ByteArray} {M : List V3} (h : K.map It.pl = J.map It.pl) : asR nx K kd M = asR nx J kd M := by
  unfold asR; rw [h, storeB_pl h]
theorem HV.rdw {w : World} {lo n vc : Nat} {va : Option Addr} {K : List It} (h : HV w lo n va vc K) : RdI w va K := by
  rcases h with ⟨-, rfl, -, -⟩ | ⟨g, rfl, o⟩
  · exact RdI.nil _ _
  · exact o.rd
theorem HV.box {w w' : World} {lo n vc p : Nat} {va : Option Addr} {K : List It} {cs : Array Value} (h : HV w lo n va vc K) (hp : w.heap[p]? = some (.cells cs 29 (0, 0))) (gr : w.grownBy w' (some p)) : HV w' lo n va vc K :=
  h.imp id (fun ⟨g, e, o⟩ => ⟨g, e, o.other hp (fun q hq hne => gr.block q hq (fun e2 => hne (Option.some.inj e2)))⟩)

theorem HV.holds {w : World} {lo n vc g : Nat} {K : List It} (h : HV w lo n (some ⟨g, 0, none⟩) vc K) : HoldsI w lo g vc K := by
  rcases h with ⟨-, -, h, -⟩ | ⟨g', e, o⟩
  · cases h
  · have e2 : g = g' := by simpa using e
    rw [e2]; exact o
/-- what lies above is as it was -/
theorem HoldsI.hi {w w' : World} {lo g cp : Nat} {K : List It} (h : HoldsI w lo g cp K) (hk : ∀ q, lo ≤ q → q < w.heap.size → w'.heap[q]? = w.heap[q]?) : HoldsI w' lo g cp K := by
  refine ⟨ownsRow_sameB h.own (fun k e => ?_), h.low, fun i hi hne => ?_, h.apart, h.lies⟩
  · have e2 : g = k := Option.some.inj e
    rw [← e2]; exact hk g h.low h.lt
  · obtain ⟨q, e, h1, h2, o⟩ := h.vals i hi hne
    refine ⟨q, e, h1, h2, ownsRow_sameB o (fun k e4 => ?_)⟩
    have e5 : q = k := Option.some.inj e4
    rw [← e5]; exact hk q h1 o.lt
theorem asR_as (nx : Int) (J : List It) (kd : ByteArray) (M : List V3) : ∃ J' : List It, (asR nx J kd M).2.2 = J'.map It.pl ∧ szSt J' ≤ szSt J + (1 + kd.size + szL M) := by
  have h1 : (asR nx J kd M).2.2 = J.map It.pl ∨ (asR nx J kd M).2.2 = J.map It.pl ++ [⟨nx, kd, M⟩] := by
    unfold asR
    split
    · unfold assP
      split
      · exact .inl rfl
      · split
        · exact .inl rfl
        · exact .inr rfl
    · exact .inl rfl
  rcases h1 with h | h
  · exact ⟨J, h, by omega⟩
  · refine ⟨J ++ [⟨nx, kd, none, 0, M⟩], by rw [h, List.map_append]; rfl, ?_⟩
    unfold szSt
    rw [List.length_append, List.map_append, List.sum_append]
    simp only [List.map_cons, List.map_nil, List.sum_cons, List.sum_nil, List.length_cons, List.length_nil]
    unfold szI
    show _ ≤ _
    simp only
    omega

set_option maxRecDepth 100000 in
set_option maxHeartbeats 12800000 in
theorem walk (a : Option Addr) (len cap : Nat) (J : List It) (nx : Int) (kd : ByteArray) (b : Option Addr) (lenM cb : Nat) (M : List V3) (w : World) (hI : IsItems w a len cap J) (hkd : kd.size ≤ maxLen) (hF : IsVals w b lenM cb M) (ht : Tab w) :
    Calls Tryd.prog 4 #[.agg #[.slice a len cap, .int .i64 nx], .agg #[.string kd, .slice b lenM cb]] w fun e w' => e = .returned (.bool true) ∧ Below w.heap.size w w' := by
  obtain ⟨rfl, hm, hr, hs⟩ := hI
  obtain ⟨rfl, hmM, hrM, hsM⟩ := hF
  have HTab := hide ht
  have HRD : Hid (∀ W, Below w.heap.size w W → RdI W a J) := fun W h => hr.below h
  have HRM : Hid (∀ W, Below w.heap.size w W → RdV W b M) := fun W h => hrM.below h
  have HSM := hide hsM
  clear ht hr hrM
  obtain ⟨⟨R1, R2, R3⟩, hA⟩ : ∃ y, asR nx J kd M = y := ⟨_, rfl⟩
  have HA := hide hA
  clear hA
  have b0 := below_al w (.cells #[.slice a J.length cap, .int .i64 nx] 24)
  have b1 := b0.alloc b0.size (.cells #[.string kd, .slice b M.length cb] 35)
  have hBA := box_old (box2_new w (.slice a J.length cap) (.int .i64 nx) 24) (by simp) (.cells #[.string kd, .slice b M.length cb] 35)
  have hBF := box2_new (w.alloc (.cells #[.slice a J.length cap, .int .i64 nx] 24)) (.string kd) (.slice b M.length cb) 35
  simp only [World.size_alloc] at hBA hBF
  go_enter Tryd.func4, Tryd.ntmps4
  go_wp2_with fail
  generalize (w.alloc (.cells #[.slice a J.length cap, .int .i64 nx] 24)).alloc (.cells #[.string kd, .slice b M.length cb] 35) = u0 at b1 hBA hBF ⊢
  clear b0
  refine (szStore_any a cap J nx 1048576 _ (HRD.out _ b1) hs hm (by omega) (by omega)).mono ?_
  rintro e u1 ⟨⟨r, rfl, hr1⟩, hb1⟩
  replace hBA := box_step hBA hb1
  replace hBF := box_step hBF hb1
  replace b1 : Below w.heap.size w u1 := b1.trans (hb1.mono b1.size)
  clear hb1
  rcases hr1 with rfl | ⟨hr2, hr3⟩
  · go_wp2
    go_ret
    exact ⟨rfl, b1⟩
  have hn : J.length ≤ 1048576 := by unfold szSt at hr3; omega
  have HL : Hid (∀ i, i < J.length → (iAt J i).L.length ≤ 1048576) := fun i hi => by
    have := szSt_mem hi
    unfold szI szL at this
    omega
  have HTot : Hid (szSt J + r.toNat ≤ 1048576) := by unfold Hid; omega
  have h5 : ¬ (r < 0) := by omega
  have hrl : r ≤ 1048576 := by omega
  have HS := hide hs
  clear hr3 hs
  obtain ⟨f0, f1, -, -⟩ := box2_cell hBF
  go_wp2_with fail
  refine (szFact_any kd b cb M r _ hkd (HRM.out _ b1) HSM.out hmM (by omega) (by omega)).mono ?_
  rintro e u2 ⟨⟨r', rfl, hr4⟩, hb2⟩
  replace hBA := box_step hBA hb2
  replace hBF := box_step hBF hb2
  replace b1 : Below w.heap.size w u2 := b1.trans (hb2.mono b1.size)
  clear hb2 f0 f1
  rcases hr4 with rfl | ⟨hr5, hr6⟩
  · go_wp2
    go_ret
    exact ⟨rfl, b1⟩
  have hnM : M.length ≤ 1048576 := by unfold szL at hr6; omega
  obtain ⟨J', hJ1, hJ2⟩ := asR_as nx J kd M
  rw [HA.out] at hJ1
  simp only at hJ1
  have HJ1 := hide hJ1
  have HJ2 : Hid (szSt J' ≤ 1048580) := by unfold Hid; have := HTot.out; omega
  have hJl : J'.length ≤ 1048580 := by have := HJ2.out; unfold szSt at this; omega
  have HJL : Hid (∀ {K : List It}, K.map It.pl = R3 → ∀ i, i < K.length → (iAt K i).L.length ≤ 1048580) := fun {K} h i hi => by
    have h' := h.trans HJ1.out
    rw [(pl_at h' hi).2.2]
    have h2 := szSt_mem (J := J') (i := i) (by rw [← pl_len h']; exact hi)
    have h3 := HJ2.out
    unfold szI szL at h2
    omega
  clear hJ1 hJ2
  have h6 : ¬ (r' < 0) := by omega
  clear hr6
  have hKL : ∀ {K : List It}, K.map It.pl = J.map It.pl → ∀ i, i < K.length → (iAt K i).L.length ≤ 1048580 := fun {K} h i hi => by
    rw [(pl_at h hi).2.2]; have := HL.out i (by rw [← pl_len h]; exact hi); omega
  have HKL := hide (fun K => @hKL K)
  have HB0 := b1
  have s8 : ∀ {W : World}, Below u2.heap.size u2 W → W.cell? ⟨w.heap.size, 0, none⟩ = some (.slice a J.length cap) ∧ W.cell? ⟨w.heap.size, 1, none⟩ = some (.int .i64 nx) ∧ W.cell? ⟨w.heap.size + 1, 0, none⟩ = some (.string kd) ∧ W.cell? ⟨w.heap.size + 1, 1, none⟩ = some (.slice b M.length cb) := fun {W} h =>
    ⟨(box2_cell (box_step hBA h)).1, (box2_cell (box_step hBA h)).2.1, (box2_cell (box_step hBF h)).1, (box2_cell (box_step hBF h)).2.1⟩
  clear hKL
  go_upto_region 8 with fail
  go_cut [6, 7, 8] (fun i6 i7 i8 W => ∃ X va vc Kw, i6 = .pointer (some ⟨X, 0, none⟩) ∧ i7 = .int .i64 R1 ∧ i8 = .bool (decide (0 < R1)) ∧ W.heap[X]? = some (.cells #[.slice va Kw.length vc, .int .i64 R2] 29 (0, 0)) ∧ RdI W va Kw ∧ Kw.map It.pl = R3 ∧ u2.heap.size ≤ X ∧ Below u2.heap.size u2 W)
  case first =>
    have B0 : Below u2.heap.size u2 u2 := Below.refl _ _
    refine wp_region_held_drew (S := fun W => W.cell? ⟨w.heap.size, 0, none⟩ = some (.slice a J.length cap) ∧ W.cell? ⟨w.heap.size, 1, none⟩ = some (.int .i64 nx) ∧ W.cell? ⟨w.heap.size + 1, 0, none⟩ = some (.string kd) ∧ W.cell? ⟨w.heap.size + 1, 1, none⟩ = some (.slice b M.length cb)) (by kernel_rfl) (s8 B0.drew) (fun hHeld => ?_)
    refine wpAnyH_take (i := 0) (oi := Oper.mk (some 31) _ _ _ _ _) (v := ?v1) rfl (by kernel_rfl) (by kernel_rfl) (by kernel_rfl) (fun _ _ _ h => h) (Or.inl ⟨by rfl, ?y1⟩) hHeld ?r1
    case y1 => (intro W hSW; obtain ⟨q0, q1, q2, q3⟩ := hSW; go_simp; try with_reducible rfl)
    simp only [Act.put, List.setIfInBounds_toArray, List.set_cons_zero, List.set_cons_succ]
    refine wpAnyH_take (i := 2) (oi := Oper.mk (some 33) _ _ _ _ _) (v := ?v2) rfl (by kernel_rfl) (by kernel_rfl) (by kernel_rfl) (fun _ _ _ h => h) (Or.inl ⟨by rfl, ?y2⟩) hHeld ?r2
    case y2 => (intro W hSW; obtain ⟨q0, q1, q2, q3⟩ := hSW; go_simp; try with_reducible rfl)
    simp only [Act.put, List.setIfInBounds_toArray, List.set_cons_zero, List.set_cons_succ]
    refine wpAnyH_ready (rs := [1, 9]) (by kernel_rfl) (by simp) (AllReadyH.cons (o := Oper.mk (some 32) _ _ _ _ _) rfl (fun Kk hK => ?_) (AllReadyH.cons (o := Oper.mk (some 6) _ _ _ _ _) rfl (fun Kk hK => ?_) AllReadyH.nil))
    · go_simp
      refine (toStore_any a cap J nx _ (HRD.out _ (HB0.trans (B0.drew.mono HB0.size))) hn HL.out).mono ?_
      rintro e x1 ⟨K1, g1, rfl, hH1, hpl1, hb1⟩
      have B1 : Below u2.heap.size u2 x1 := B0.drew.trans (hb1.mono B0.drew.size)
      refine hK.out _ _ (s8 B1) (fun hHeld => ?_)
      clear hK Kk
      refine wpAnyH_ready (rs := [3, 9]) (by kernel_rfl) (by simp) (AllReadyH.cons (o := Oper.mk (some 34) _ _ _ _ _) rfl (fun Kk hK => ?_) (AllReadyH.cons (o := Oper.mk (some 6) _ _ _ _ _) rfl (fun Kk hK => ?_) AllReadyH.nil))
      · go_simp
        refine (toFact_any kd b cb M _ (HRM.out _ (HB0.trans (B1.mono HB0.size))) hnM).mono ?_
        rintro e x2 ⟨g3, rfl, hg3, o2, hb2⟩
        have hH2 := hH1.later hb2
        have B2 : Below u2.heap.size u2 x2 := B1.trans (hb2.mono B1.size)
        refine hK.out _ _ (s8 B2) (fun hHeld => ?_)
        clear hK Kk
        refine wpAnyH_ready (rs := [4, 9]) (by kernel_rfl) (by simp) (AllReadyH.cons (o := Oper.mk (some 35) _ _ _ _ _) rfl (fun Kk hK => ?_) (AllReadyH.cons (o := Oper.mk (some 6) _ _ _ _ _) rfl (fun Kk hK => ?_) AllReadyH.nil))
        · go_simp
          refine (specAssert_any _ _ J.length J.length M.length nx kd K1 M _ hH2.rd (pl_len hpl1) (by omega) (okI_pl hpl1 HS.out) (HKL.out K1 hpl1) o2.rd hkd HSM.out (by omega)).mono ?_
          rw [asR_pl hpl1, HA.out]
          rintro e x3 ⟨va, vc, Kw, rfl, hV3, hplw, hb3⟩
          have B3 : Below u2.heap.size u2 x3 := B2.trans (hb3.mono B2.size)
          refine hK.out _ _ (s8 B3) (fun hHeld => ?_)
          clear hK Kk
          refine wpAnyH_take (i := 5) (oi := Oper.mk (some 30) _ _ _ _ _) (v := ?v3) rfl (by kernel_rfl) (by kernel_rfl) (by kernel_rfl) (fun _ _ _ h => h) (Or.inl ⟨by rfl, ?y3⟩) hHeld ?r3
          case y3 => (intro W hSW; obtain ⟨q0, q1, q2, q3⟩ := hSW; go_simp; try with_reducible rfl)
          simp only [Act.put, List.setIfInBounds_toArray, List.set_cons_zero, List.set_cons_succ]
          refine wpAnyH_take (i := 6) (oi := Oper.mk (some 36) _ _ _ _ _) (v := ?v4) rfl (by kernel_rfl) (by kernel_rfl) (by kernel_rfl) (fun _ _ _ h => h) (Or.inl ⟨by rfl, ?y4⟩) hHeld ?r4
          case y4 => (intro W hSW; obtain ⟨q0, q1, q2, q3⟩ := hSW; go_simp; try with_reducible rfl)
          simp only [Act.put, List.setIfInBounds_toArray, List.set_cons_zero, List.set_cons_succ]
          refine wpAnyH_take (i := 7) (oi := Oper.mk (some 37) _ _ _ _ _) (v := ?v5) rfl (by kernel_rfl) (by kernel_rfl) (by kernel_rfl) (fun _ _ _ h => h) (Or.inl ⟨by rfl, ?y5⟩) hHeld ?r5
          case y5 => (intro W hSW; obtain ⟨q0, q1, q2, q3⟩ := hSW; go_simp; try with_reducible rfl)
          simp only [Act.put, List.setIfInBounds_toArray, List.set_cons_zero, List.set_cons_succ]
          refine wpAnyH_take (i := 8) (oi := Oper.mk (some 38) _ _ _ _ _) (v := ?v6) rfl (by kernel_rfl) (by kernel_rfl) (by kernel_rfl) (fun _ _ _ h => h) (Or.inl ⟨by rfl, ?y6⟩) hHeld ?r6
          case y6 => (intro W hSW; obtain ⟨q0, q1, q2, q3⟩ := hSW; go_simp; try with_reducible rfl)
          simp only [Act.put, List.setIfInBounds_toArray, List.set_cons_zero, List.set_cons_succ]
          refine wpAnyH_ready (rs := [9]) (by kernel_rfl) (by simp) (AllReadyH.cons (o := Oper.mk (some 6) _ _ _ _ _) rfl (fun Kk hK => ?_) AllReadyH.nil)
          have B4 := B3.alloc B3.size (.cells #[.slice none 0 0, .int .i64 0] 29)
          have X4 := box2_new x3 (.slice none 0 0) (.int .i64 0) 29
          have hX4 : u2.heap.size ≤ x3.heap.size := B3.size
          have hV4 := hV3.later (below_al x3 (.cells #[.slice none 0 0, .int .i64 0] 29))
          go_simp
          refine hK.out _ _ (s8 B4) (fun hHeld => ?_)
          clear hK Kk
          refine wpAnyH_ready (rs := [10]) (by kernel_rfl) (by simp) (AllReadyH.cons (o := Oper.mk none _ _ _ _ _) rfl (fun Kk hK => ?_) AllReadyH.nil)
          have Be := B3.alloc B3.size (.cells #[.slice va Kw.length vc, .int .i64 R2] 29)
          have ce := box2_new x3 (.slice va Kw.length vc) (.int .i64 R2) 29
          have Ve := hV3.later (below_al x3 (.cells #[.slice va Kw.length vc, .int .i64 R2] 29))
          clear B4 X4
          go_simp
          refine hK.out _ _ (s8 Be) (fun hHeld => ?_)
          clear hK Kk
          refine wpAnyH_take (i := 11) (oi := Oper.mk (some 7) _ _ _ _ _) (v := ?v7) rfl (by kernel_rfl) (by kernel_rfl) (by kernel_rfl) (fun _ _ _ h => h) (Or.inl ⟨by rfl, ?y7⟩) hHeld ?r7
          case y7 => (intro W hSW; obtain ⟨q0, q1, q2, q3⟩ := hSW; go_simp; try with_reducible rfl)
          simp only [Act.put, List.setIfInBounds_toArray, List.set_cons_zero, List.set_cons_succ]
          refine wpAnyH_take (i := 12) (oi := Oper.mk (some 8) _ _ _ _ _) (v := ?v8) rfl (by kernel_rfl) (by kernel_rfl) (by kernel_rfl) (fun _ _ _ h => h) (Or.inl ⟨by rfl, ?y8⟩) hHeld ?r8
          case y8 => (intro W hSW; obtain ⟨q0, q1, q2, q3⟩ := hSW; go_simp; try with_reducible rfl)
          simp only [Act.put, List.setIfInBounds_toArray, List.set_cons_zero, List.set_cons_succ]
          refine wpAnyH_done (by kernel_rfl) ?_ _
          clear hHeld
          go_wp2_with fail
          go_meet
          exact ⟨_, va, vc, Kw, rfl, rfl, rfl, ce, HV.rdw Ve, hplw, hX4, Be⟩
        · have B3 := B2.alloc B2.size (.cells #[.slice none 0 0, .int .i64 0] 29)
          have X3 := box2_new x2 (.slice none 0 0) (.int .i64 0) 29
          have hX3 : u2.heap.size ≤ x2.heap.size := B2.size
          have hH3 := hH2.later (below_al x2 (.cells #[.slice none 0 0, .int .i64 0] 29))
          have o3 := o2.later (below_al x2 (.cells #[.slice none 0 0, .int .i64 0] 29))
          go_simp
          refine hK.out _ _ (s8 B3) (fun hHeld => ?_)
          clear hK Kk
          refine wpAnyH_ready (rs := [4]) (by kernel_rfl) (by simp) (AllReadyH.cons (o := Oper.mk (some 35) _ _ _ _ _) rfl (fun Kk hK => ?_) AllReadyH.nil)
          go_simp
          refine (specAssert_any _ _ J.length J.length M.length nx kd K1 M _ hH3.rd (pl_len hpl1) (by omega) (okI_pl hpl1 HS.out) (HKL.out K1 hpl1) o3.rd hkd HSM.out (by omega)).mono ?_
          rw [asR_pl hpl1, HA.out]
          rintro e x4 ⟨va, vc, Kw, rfl, hV4, hplw, hb4⟩
          have B4 : Below u2.heap.size u2 x4 := B3.trans (hb4.mono B3.size)
          have X4 := box_step X3 hb4
          refine hK.out _ _ (s8 B4) (fun hHeld => ?_)
          clear hK Kk
          refine wpAnyH_take (i := 5) (oi := Oper.mk (some 30) _ _ _ _ _) (v := ?v9) rfl (by kernel_rfl) (by kernel_rfl) (by kernel_rfl) (fun _ _ _ h => h) (Or.inl ⟨by rfl, ?y9⟩) hHeld ?r9
          case y9 => (intro W hSW; obtain ⟨q0, q1, q2, q3⟩ := hSW; go_simp; try with_reducible rfl)
          simp only [Act.put, List.setIfInBounds_toArray, List.set_cons_zero, List.set_cons_succ]
          refine wpAnyH_take (i := 6) (oi := Oper.mk (some 36) _ _ _ _ _) (v := ?v10) rfl (by kernel_rfl) (by kernel_rfl) (by kernel_rfl) (fun _ _ _ h => h) (Or.inl ⟨by rfl, ?y10⟩) hHeld ?r10
          case y10 => (intro W hSW; obtain ⟨q0, q1, q2, q3⟩ := hSW; go_simp; try with_reducible rfl)
          simp only [Act.put, List.setIfInBounds_toArray, List.set_cons_zero, List.set_cons_succ]
          refine wpAnyH_take (i := 7) (oi := Oper.mk (some 37) _ _ _ _ _) (v := ?v11) rfl (by kernel_rfl) (by kernel_rfl) (by kernel_rfl) (fun _ _ _ h => h) (Or.inl ⟨by rfl, ?y11⟩) hHeld ?r11
          case y11 => (intro W hSW; obtain ⟨q0, q1, q2, q3⟩ := hSW; go_simp; try with_reducible rfl)
          simp only [Act.put, List.setIfInBounds_toArray, List.set_cons_zero, List.set_cons_succ]
          refine wpAnyH_take (i := 8) (oi := Oper.mk (some 38) _ _ _ _ _) (v := ?v12) rfl (by kernel_rfl) (by kernel_rfl) (by kernel_rfl) (fun _ _ _ h => h) (Or.inl ⟨by rfl, ?y12⟩) hHeld ?r12
          case y12 => (intro W hSW; obtain ⟨q0, q1, q2, q3⟩ := hSW; go_simp; try with_reducible rfl)
          simp only [Act.put, List.setIfInBounds_toArray, List.set_cons_zero, List.set_cons_succ]
          refine wpAnyH_ready (rs := [10]) (by kernel_rfl) (by simp) (AllReadyH.cons (o := Oper.mk none _ _ _ _ _) rfl (fun Kk hK => ?_) AllReadyH.nil)
          obtain ⟨z0, z1, y0, y1⟩ := box2_cell X4
          have st := box2_set X4 (.slice va Kw.length vc) (.int .i64 R2)
          have Be := B4.grown st.2 B4.size (fun q e => by have e2 := Option.some.inj e; rw [← e2]; exact hX3)
          have ce := st.1
          have Ve := HV.box hV4 X4 st.2
          go_simp
          refine hK.out _ _ (s8 Be) (fun hHeld => ?_)
          clear hK Kk
          refine wpAnyH_take (i := 11) (oi := Oper.mk (some 7) _ _ _ _ _) (v := ?v13) rfl (by kernel_rfl) (by kernel_rfl) (by kernel_rfl) (fun _ _ _ h => h) (Or.inl ⟨by rfl, ?y13⟩) hHeld ?r13
          case y13 => (intro W hSW; obtain ⟨q0, q1, q2, q3⟩ := hSW; go_simp; try with_reducible rfl)
          simp only [Act.put, List.setIfInBounds_toArray, List.set_cons_zero, List.set_cons_succ]
          refine wpAnyH_take (i := 12) (oi := Oper.mk (some 8) _ _ _ _ _) (v := ?v14) rfl (by kernel_rfl) (by kernel_rfl) (by kernel_rfl) (fun _ _ _ h => h) (Or.inl ⟨by rfl, ?y14⟩) hHeld ?r14
          case y14 => (intro W hSW; obtain ⟨q0, q1, q2, q3⟩ := hSW; go_simp; try with_reducible rfl)
          simp only [Act.put, List.setIfInBounds_toArray, List.set_cons_zero, List.set_cons_succ]
          refine wpAnyH_done (by kernel_rfl) ?_ _
          clear hHeld
          go_wp2_with fail
          go_meet
          exact ⟨_, va, vc, Kw, rfl, rfl, rfl, ce, HV.rdw Ve, hplw, hX3, Be⟩
      · have B2 := B1.alloc B1.size (.cells #[.slice none 0 0, .int .i64 0] 29)
        have X2 := box2_new x1 (.slice none 0 0) (.int .i64 0) 29
        have hX2 : u2.heap.size ≤ x1.heap.size := B1.size
        have hH2 := hH1.later (below_al x1 (.cells #[.slice none 0 0, .int .i64 0] 29))
        go_simp
        refine hK.out _ _ (s8 B2) (fun hHeld => ?_)
        clear hK Kk
        refine wpAnyH_ready (rs := [3]) (by kernel_rfl) (by simp) (AllReadyH.cons (o := Oper.mk (some 34) _ _ _ _ _) rfl (fun Kk hK => ?_) AllReadyH.nil)
        go_simp
        refine (toFact_any kd b cb M _ (HRM.out _ (HB0.trans (B2.mono HB0.size))) hnM).mono ?_
        rintro e x3 ⟨g3, rfl, hg3, o3, hb3⟩
        have hH3 := hH2.later hb3
        have B3 : Below u2.heap.size u2 x3 := B2.trans (hb3.mono B2.size)
        have X3 := box_step X2 hb3
        refine hK.out _ _ (s8 B3) (fun hHeld => ?_)
        clear hK Kk
        refine wpAnyH_ready (rs := [4]) (by kernel_rfl) (by simp) (AllReadyH.cons (o := Oper.mk (some 35) _ _ _ _ _) rfl (fun Kk hK => ?_) AllReadyH.nil)
        go_simp
        refine (specAssert_any _ _ J.length J.length M.length nx kd K1 M _ hH3.rd (pl_len hpl1) (by omega) (okI_pl hpl1 HS.out) (HKL.out K1 hpl1) o3.rd hkd HSM.out (by omega)).mono ?_
        rw [asR_pl hpl1, HA.out]
        rintro e x4 ⟨va, vc, Kw, rfl, hV4, hplw, hb4⟩
        have B4 : Below u2.heap.size u2 x4 := B3.trans (hb4.mono B3.size)
        have X4 := box_step X3 hb4
        refine hK.out _ _ (s8 B4) (fun hHeld => ?_)
        clear hK Kk
        refine wpAnyH_take (i := 5) (oi := Oper.mk (some 30) _ _ _ _ _) (v := ?v15) rfl (by kernel_rfl) (by kernel_rfl) (by kernel_rfl) (fun _ _ _ h => h) (Or.inl ⟨by rfl, ?y15⟩) hHeld ?r15
        case y15 => (intro W hSW; obtain ⟨q0, q1, q2, q3⟩ := hSW; go_simp; try with_reducible rfl)
        simp only [Act.put, List.setIfInBounds_toArray, List.set_cons_zero, List.set_cons_succ]
        refine wpAnyH_take (i := 6) (oi := Oper.mk (some 36) _ _ _ _ _) (v := ?v16) rfl (by kernel_rfl) (by kernel_rfl) (by kernel_rfl) (fun _ _ _ h => h) (Or.inl ⟨by rfl, ?y16⟩) hHeld ?r16
        case y16 => (intro W hSW; obtain ⟨q0, q1, q2, q3⟩ := hSW; go_simp; try with_reducible rfl)
        simp only [Act.put, List.setIfInBounds_toArray, List.set_cons_zero, List.set_cons_succ]
        refine wpAnyH_take (i := 7) (oi := Oper.mk (some 37) _ _ _ _ _) (v := ?v17) rfl (by kernel_rfl) (by kernel_rfl) (by kernel_rfl) (fun _ _ _ h => h) (Or.inl ⟨by rfl, ?y17⟩) hHeld ?r17
        case y17 => (intro W hSW; obtain ⟨q0, q1, q2, q3⟩ := hSW; go_simp; try with_reducible rfl)
        simp only [Act.put, List.setIfInBounds_toArray, List.set_cons_zero, List.set_cons_succ]
        refine wpAnyH_take (i := 8) (oi := Oper.mk (some 38) _ _ _ _ _) (v := ?v18) rfl (by kernel_rfl) (by kernel_rfl) (by kernel_rfl) (fun _ _ _ h => h) (Or.inl ⟨by rfl, ?y18⟩) hHeld ?r18
        case y18 => (intro W hSW; obtain ⟨q0, q1, q2, q3⟩ := hSW; go_simp; try with_reducible rfl)
        simp only [Act.put, List.setIfInBounds_toArray, List.set_cons_zero, List.set_cons_succ]
        refine wpAnyH_ready (rs := [10]) (by kernel_rfl) (by simp) (AllReadyH.cons (o := Oper.mk none _ _ _ _ _) rfl (fun Kk hK => ?_) AllReadyH.nil)
        obtain ⟨z0, z1, y0, y1⟩ := box2_cell X4
        have st := box2_set X4 (.slice va Kw.length vc) (.int .i64 R2)
        have Be := B4.grown st.2 B4.size (fun q e => by have e2 := Option.some.inj e; rw [← e2]; exact hX2)
        have ce := st.1
        have Ve := HV.box hV4 X4 st.2
        go_simp
        refine hK.out _ _ (s8 Be) (fun hHeld => ?_)
        clear hK Kk
        refine wpAnyH_take (i := 11) (oi := Oper.mk (some 7) _ _ _ _ _) (v := ?v19) rfl (by kernel_rfl) (by kernel_rfl) (by kernel_rfl) (fun _ _ _ h => h) (Or.inl ⟨by rfl, ?y19⟩) hHeld ?r19
        case y19 => (intro W hSW; obtain ⟨q0, q1, q2, q3⟩ := hSW; go_simp; try with_reducible rfl)
        simp only [Act.put, List.setIfInBounds_toArray, List.set_cons_zero, List.set_cons_succ]
        refine wpAnyH_take (i := 12) (oi := Oper.mk (some 8) _ _ _ _ _) (v := ?v20) rfl (by kernel_rfl) (by kernel_rfl) (by kernel_rfl) (fun _ _ _ h => h) (Or.inl ⟨by rfl, ?y20⟩) hHeld ?r20
        case y20 => (intro W hSW; obtain ⟨q0, q1, q2, q3⟩ := hSW; go_simp; try with_reducible rfl)
        simp only [Act.put, List.setIfInBounds_toArray, List.set_cons_zero, List.set_cons_succ]
        refine wpAnyH_done (by kernel_rfl) ?_ _
        clear hHeld
        go_wp2_with fail
        go_meet
        exact ⟨_, va, vc, Kw, rfl, rfl, rfl, ce, HV.rdw Ve, hplw, hX2, Be⟩
    · have B1 := B0.alloc B0.size (.cells #[.slice none 0 0, .int .i64 0] 29)
      have X1 := box2_new u2 (.slice none 0 0) (.int .i64 0) 29
      have hX1 : u2.heap.size ≤ u2.heap.size := B0.size
      go_simp
      refine hK.out _ _ (s8 B1.drew) (fun hHeld => ?_)
      clear hK Kk
      refine wpAnyH_ready (rs := [1]) (by kernel_rfl) (by simp) (AllReadyH.cons (o := Oper.mk (some 32) _ _ _ _ _) rfl (fun Kk hK => ?_) AllReadyH.nil)
      go_simp
      refine (toStore_any a cap J nx _ (HRD.out _ (HB0.trans (B1.drew.mono HB0.size))) hn HL.out).mono ?_
      rintro e x2 ⟨K1, g1, rfl, hH2, hpl1, hb2⟩
      have B2 : Below u2.heap.size u2 x2 := B1.drew.trans (hb2.mono B1.drew.size)
      have X2 := box_drw X1 hb2
      refine hK.out _ _ (s8 B2) (fun hHeld => ?_)
      clear hK Kk
      refine wpAnyH_ready (rs := [3]) (by kernel_rfl) (by simp) (AllReadyH.cons (o := Oper.mk (some 34) _ _ _ _ _) rfl (fun Kk hK => ?_) AllReadyH.nil)
      go_simp
      refine (toFact_any kd b cb M _ (HRM.out _ (HB0.trans (B2.mono HB0.size))) hnM).mono ?_
      rintro e x3 ⟨g3, rfl, hg3, o3, hb3⟩
      have hH3 := hH2.later hb3
      have B3 : Below u2.heap.size u2 x3 := B2.trans (hb3.mono B2.size)
      have X3 := box_step X2 hb3
      refine hK.out _ _ (s8 B3) (fun hHeld => ?_)
      clear hK Kk
      refine wpAnyH_ready (rs := [4]) (by kernel_rfl) (by simp) (AllReadyH.cons (o := Oper.mk (some 35) _ _ _ _ _) rfl (fun Kk hK => ?_) AllReadyH.nil)
      go_simp
      refine (specAssert_any _ _ J.length J.length M.length nx kd K1 M _ hH3.rd (pl_len hpl1) (by omega) (okI_pl hpl1 HS.out) (HKL.out K1 hpl1) o3.rd hkd HSM.out (by omega)).mono ?_
      rw [asR_pl hpl1, HA.out]
      rintro e x4 ⟨va, vc, Kw, rfl, hV4, hplw, hb4⟩
      have B4 : Below u2.heap.size u2 x4 := B3.trans (hb4.mono B3.size)
      have X4 := box_step X3 hb4
      refine hK.out _ _ (s8 B4) (fun hHeld => ?_)
      clear hK Kk
      refine wpAnyH_take (i := 5) (oi := Oper.mk (some 30) _ _ _ _ _) (v := ?v21) rfl (by kernel_rfl) (by kernel_rfl) (by kernel_rfl) (fun _ _ _ h => h) (Or.inl ⟨by rfl, ?y21⟩) hHeld ?r21
      case y21 => (intro W hSW; obtain ⟨q0, q1, q2, q3⟩ := hSW; go_simp; try with_reducible rfl)
      simp only [Act.put, List.setIfInBounds_toArray, List.set_cons_zero, List.set_cons_succ]
      refine wpAnyH_take (i := 6) (oi := Oper.mk (some 36) _ _ _ _ _) (v := ?v22) rfl (by kernel_rfl) (by kernel_rfl) (by kernel_rfl) (fun _ _ _ h => h) (Or.inl ⟨by rfl, ?y22⟩) hHeld ?r22
      case y22 => (intro W hSW; obtain ⟨q0, q1, q2, q3⟩ := hSW; go_simp; try with_reducible rfl)
      simp only [Act.put, List.setIfInBounds_toArray, List.set_cons_zero, List.set_cons_succ]
      refine wpAnyH_take (i := 7) (oi := Oper.mk (some 37) _ _ _ _ _) (v := ?v23) rfl (by kernel_rfl) (by kernel_rfl) (by kernel_rfl) (fun _ _ _ h => h) (Or.inl ⟨by rfl, ?y23⟩) hHeld ?r23
      case y23 => (intro W hSW; obtain ⟨q0, q1, q2, q3⟩ := hSW; go_simp; try with_reducible rfl)
      simp only [Act.put, List.setIfInBounds_toArray, List.set_cons_zero, List.set_cons_succ]
      refine wpAnyH_take (i := 8) (oi := Oper.mk (some 38) _ _ _ _ _) (v := ?v24) rfl (by kernel_rfl) (by kernel_rfl) (by kernel_rfl) (fun _ _ _ h => h) (Or.inl ⟨by rfl, ?y24⟩) hHeld ?r24
      case y24 => (intro W hSW; obtain ⟨q0, q1, q2, q3⟩ := hSW; go_simp; try with_reducible rfl)
      simp only [Act.put, List.setIfInBounds_toArray, List.set_cons_zero, List.set_cons_succ]
      refine wpAnyH_ready (rs := [10]) (by kernel_rfl) (by simp) (AllReadyH.cons (o := Oper.mk none _ _ _ _ _) rfl (fun Kk hK => ?_) AllReadyH.nil)
      obtain ⟨z0, z1, y0, y1⟩ := box2_cell X4
      have st := box2_set X4 (.slice va Kw.length vc) (.int .i64 R2)
      have Be := B4.grown st.2 B4.size (fun q e => by have e2 := Option.some.inj e; rw [← e2]; exact hX1)
      have ce := st.1
      have Ve := HV.box hV4 X4 st.2
      go_simp
      refine hK.out _ _ (s8 Be) (fun hHeld => ?_)
      clear hK Kk
      refine wpAnyH_take (i := 11) (oi := Oper.mk (some 7) _ _ _ _ _) (v := ?v25) rfl (by kernel_rfl) (by kernel_rfl) (by kernel_rfl) (fun _ _ _ h => h) (Or.inl ⟨by rfl, ?y25⟩) hHeld ?r25
      case y25 => (intro W hSW; obtain ⟨q0, q1, q2, q3⟩ := hSW; go_simp; try with_reducible rfl)
      simp only [Act.put, List.setIfInBounds_toArray, List.set_cons_zero, List.set_cons_succ]
      refine wpAnyH_take (i := 12) (oi := Oper.mk (some 8) _ _ _ _ _) (v := ?v26) rfl (by kernel_rfl) (by kernel_rfl) (by kernel_rfl) (fun _ _ _ h => h) (Or.inl ⟨by rfl, ?y26⟩) hHeld ?r26
      case y26 => (intro W hSW; obtain ⟨q0, q1, q2, q3⟩ := hSW; go_simp; try with_reducible rfl)
      simp only [Act.put, List.setIfInBounds_toArray, List.set_cons_zero, List.set_cons_succ]
      refine wpAnyH_done (by kernel_rfl) ?_ _
      clear hHeld
      go_wp2_with fail
      go_meet
      exact ⟨_, va, vc, Kw, rfl, rfl, rfl, ce, HV.rdw Ve, hplw, hX1, Be⟩
  case rest =>
  obtain ⟨X, va, vc, Kw, rfl, rfl, rfl, hXb, hrw, hplw, hXl, hb8⟩ := hcut
  obtain ⟨v8, rfl⟩ : ∃ v8 : World, v8 = wc := ⟨_, rfl⟩
  have HPlw := hide hplw
  have hBA8 := box_step hBA hb8
  have hBF8 := box_step hBF hb8
  have B8 : Below w.heap.size w v8 := HB0.trans (hb8.mono HB0.size)
  have F8 : Hid (∀ {W : World}, Below v8.heap.size v8 W → W.heap[w.heap.size]? = some (.cells #[.slice a J.length cap, .int .i64 nx] 24 (0, 0)) ∧ W.heap[w.heap.size + 1]? = some (.cells #[.string kd, .slice b M.length cb] 35 (0, 0)) ∧ W.heap[X]? = some (.cells #[.slice va Kw.length vc, .int .i64 R2] 29 (0, 0)) ∧ RdI W va Kw ∧ Below w.heap.size w W) := fun {W} h => ⟨box_step hBA8 h, box_step hBF8 h, box_step hXb h, hrw.below h, B8.trans (h.mono B8.size)⟩
  have hwl : Kw.length ≤ 1048580 := by rw [pl_len (HPlw.out.trans HJ1.out)]; exact hJl
  have kR : (R1 != R1) = false := by simp
  have kB : (decide (0 < R1) != decide (0 < R1)) = false := by simp
  clear hplw s8 hBA hBF hb8 hXb hrw hXl
  obtain ⟨a0, a1, -, -⟩ := box2_cell hBA8
  go_wp2_with fail
  refine (toStore_any a cap J nx _ (HRD.out _ B8) hn HL.out).mono ?_
  rintro e v9 ⟨K2, g2, rfl, hH2, hpl2, hb9⟩
  have HP2 := hide hpl2
  have ba := below_al v9 (.cells #[.slice (some ⟨g2, 0, none⟩) J.length J.length, .int .i64 nx] 29)
  have hY := box2_new v9 (.slice (some ⟨g2, 0, none⟩) J.length J.length) (.int .i64 nx) 29
  have b10 := hb9.trans (ba.mono hb9.size)
  replace hH2 := hH2.later ba
  have hYl : v8.heap.size ≤ v9.heap.size := hb9.size
  have hz8 := b10.size
  obtain ⟨f0, f1, -, -⟩ := box2_cell (F8.out b10).2.1
  clear hpl2 hb9 ba a0 a1 hBA8 hBF8
  go_wp2_with fail
  generalize v9.alloc (.cells #[.slice (some ⟨g2, 0, none⟩) J.length J.length, .int .i64 nx] 29) = v10 at hY b10 hH2 hz8 f0 f1 ⊢
  generalize v9.heap.size = Y at hY hYl ⊢
  refine (toFact_any kd b cb M _ (HRM.out _ (F8.out b10).2.2.2.2) hnM).mono ?_
  rintro e v11 ⟨g3, rfl, hg3, o3, hb11⟩
  have ba := below_al v11 (.cells #[.string kd, .slice (some ⟨g3, 0, none⟩) M.length M.length] 41)
  have hZ := box2_new v11 (.string kd) (.slice (some ⟨g3, 0, none⟩) M.length M.length) 41
  have hbA := hb11.trans (ba.mono hb11.size)
  have HApZ : Hid (Apart K2 g2 v11.heap.size) := hH2.apart_hi hb11.size
  have HAp3 : Hid (Apart K2 g2 g3) := hH2.apart_hi hg3
  have HZ3 : Hid (v11.heap.size ≠ g3) := fun e => by have := o3.lt; omega
  have hY12 := box_step hY hbA
  have b12 := b10.trans (hbA.mono b10.size)
  have HHi : Hid (∀ q, v10.heap.size ≤ q → Apart K2 g2 q) := fun q hq => hH2.apart_hi hq
  have hz10 : v10.heap.size ≤ (v11.alloc (.cells #[.string kd, .slice (some ⟨g3, 0, none⟩) M.length M.length] 41)).heap.size := hbA.size
  have HG3l : Hid (g3 < (v11.alloc (.cells #[.string kd, .slice (some ⟨g3, 0, none⟩) M.length M.length] 41)).heap.size) := Nat.lt_of_lt_of_le o3.lt ba.size
  have HZl : Hid (v11.heap.size < (v11.alloc (.cells #[.string kd, .slice (some ⟨g3, 0, none⟩) M.length M.length] 41)).heap.size) := (Array.getElem?_eq_some_iff.1 hZ).1
  replace hH2 := hH2.later hbA
  replace o3 := o3.later ba
  clear hb11 ba hbA hY b10 f0 f1
  obtain ⟨y0, y1, -, -⟩ := box2_cell hY12
  obtain ⟨z0, z1, -, -⟩ := box2_cell hZ
  go_wp2_with fail
  generalize v11.alloc (.cells #[.string kd, .slice (some ⟨g3, 0, none⟩) M.length M.length] 41) = v12 at hZ hY12 b12 hH2 o3 hz10 HG3l HZl y0 y1 z0 z1 ⊢
  generalize v11.heap.size = Z at hZ HApZ HZ3 HZl z0 z1 ⊢
  refine (implAssert_any _ _ J.length J.length M.length nx kd K2 M _ hH2.rd (pl_len HP2.out) (by omega) (okI_pl HP2.out HS.out) (HKL.out K2 HP2.out) hH2.lies o3.rd hkd HSM.out (by omega) o3.lies (HTab.out.later (F8.out b12).2.2.2.2 (Nat.le_refl _))).mono ?_
  rw [asR_pl HP2.out, HA.out]
  rintro e v13 ⟨g, vg, Kg, rfl, hVg, hplg, hb13⟩
  have hHg := HV.holds hVg
  have HPlg := hide hplg
  have HApG : Hid (Apart Kg g v13.heap.size) := hHg.apart_hi (Nat.le_refl _)
  have hgl : Kg.length = Kw.length := pl_len (HPlg.out.trans HPlw.out.symm)
  have HGl := hide hgl
  simp only [hgl]
  have ba := below_al v13 (.cells #[.slice (some ⟨g, 0, none⟩) Kw.length vg, .int .i64 R2] 29)
  have hG := box2_new v13 (.slice (some ⟨g, 0, none⟩) Kw.length vg) (.int .i64 R2) 29
  have hbA := hb13.trans (ba.mono hb13.size)
  have hz12 : v12.heap.size ≤ v13.heap.size := hb13.size
  have hY14 := box_step hY12 hbA
  have hZ14 := box_step hZ hbA
  have b14 := b12.trans (hbA.mono b12.size)
  replace hH2 := hH2.later hbA
  replace o3 := o3.later hbA
  replace hHg := hHg.later ba
  clear hgl hVg hplg hb13 ba hbA hY12 hZ b12 y0 y1 z0 z1
  obtain ⟨y0, y1, -, -⟩ := box2_cell hG
  obtain ⟨x0, x1, -, -⟩ := box2_cell (F8.out b14).2.2.1
  go_wp2_with fail
  generalize v13.alloc (.cells #[.slice (some ⟨g, 0, none⟩) Kw.length vg, .int .i64 R2] 29) = v14 at hG hY14 hZ14 b14 hH2 o3 hHg y0 y1 x0 x1 ⊢
  generalize v13.heap.size = G at hG hz12 HApG y0 y1 ⊢
  refine (eqStore_same _ _ _ _ Kw.length R2 Kg Kw _ hHg.rd (F8.out b14).2.2.2.1 HGl.out (HPlg.out.trans HPlw.out.symm) hwl (HJL.out HPlg.out)).mono ?_
  rintro e v15 ⟨rfl, hb15⟩
  have hG15 := box_step hG hb15
  have hY15 := box_step hY14 hb15
  have hZ15 := box_step hZ14 hb15
  have b15 := b14.trans (hb15.mono b14.size)
  replace hH2 := hH2.later hb15
  replace o3 := o3.later hb15
  replace hHg := hHg.later hb15
  clear hb15 hG hY14 hZ14 b14 y0 y1 x0 x1
  go_upto_region 14 with fail
  have s14 : ∀ {W : World}, Below v15.heap.size v15 W → W.cell? ⟨Y, 0, none⟩ = some (.slice (some ⟨g2, 0, none⟩) J.length J.length) ∧ W.cell? ⟨Y, 1, none⟩ = some (.int .i64 nx) ∧ W.cell? ⟨w.heap.size, 0, none⟩ = some (.slice a J.length cap) ∧ W.cell? ⟨w.heap.size, 1, none⟩ = some (.int .i64 nx) := fun {W} h =>
    ⟨(box2_cell (box_step hY15 h)).1, (box2_cell (box_step hY15 h)).2.1, (box2_cell (F8.out (b15.trans (h.mono b15.size))).1).1, (box2_cell (F8.out (b15.trans (h.mono b15.size))).1).2.1⟩
  refine wp_region_held_drew (S := fun W => W.cell? ⟨Y, 0, none⟩ = some (.slice (some ⟨g2, 0, none⟩) J.length J.length) ∧ W.cell? ⟨Y, 1, none⟩ = some (.int .i64 nx) ∧ W.cell? ⟨w.heap.size, 0, none⟩ = some (.slice a J.length cap) ∧ W.cell? ⟨w.heap.size, 1, none⟩ = some (.int .i64 nx)) (by kernel_rfl) (s14 (Below.refl _ _).drew) (fun hHeld => ?_)
  refine wpAnyH_take (i := 0) (oi := Oper.mk (some 64) _ _ _ _ _) (v := ?v27) rfl (by kernel_rfl) (by kernel_rfl) (by kernel_rfl) (fun _ _ _ h => h) (Or.inl ⟨by rfl, ?y27⟩) hHeld ?r27
  case y27 => (intro W hSW; obtain ⟨q0, q1, q2, q3⟩ := hSW; go_simp; try with_reducible rfl)
  simp only [Act.put, List.setIfInBounds_toArray, List.set_cons_zero, List.set_cons_succ]
  refine wpAnyH_take (i := 1) (oi := Oper.mk (some 65) _ _ _ _ _) (v := ?v28) rfl (by kernel_rfl) (by kernel_rfl) (by kernel_rfl) (fun _ _ _ h => h) (Or.inl ⟨by rfl, ?y28⟩) hHeld ?r28
  case y28 => (intro W hSW; obtain ⟨q0, q1, q2, q3⟩ := hSW; go_simp; try with_reducible rfl)
  simp only [Act.put, List.setIfInBounds_toArray, List.set_cons_zero, List.set_cons_succ]
  refine wpAnyH_ready (rs := [2]) (by kernel_rfl) (by simp) (AllReadyH.cons (o := Oper.mk (some 66) _ _ _ _ _) rfl (fun Kk hK => ?_) AllReadyH.nil)
  go_simp
  refine (toStore_any a cap J nx _ (HRD.out _ (F8.out b15.drew).2.2.2.2) hn HL.out).mono ?_
  rintro e v16 ⟨K3, g4, rfl, hH3, hpl3, hb16⟩
  have c16 : Below v15.heap.size v15 v16 := below_dr hb16
  refine hK.out _ _ (s14 c16) (fun hHeld => ?_)
  clear hK Kk
  refine wpAnyH_ready (rs := [3]) (by kernel_rfl) (by simp) (AllReadyH.cons (o := Oper.mk (some 67) _ _ _ _ _) rfl (fun Kk hK => ?_) AllReadyH.nil)
  go_simp
  refine (eqStore_same _ _ _ _ J.length nx K2 K3 _ (hH2.later c16).rd hH3.rd (pl_len HP2.out) (HP2.out.trans hpl3.symm) (by omega) (HKL.out K2 HP2.out)).mono ?_
  rintro e v17 ⟨rfl, hb17⟩
  have c17 := c16.trans (hb17.mono c16.size)
  refine hK.out _ _ (s14 c17) (fun hHeld => ?_)
  clear hK Kk
  refine wpAnyH_take (i := 4) (oi := Oper.mk (some 68) _ _ _ _ _) (v := ?v29) rfl (by kernel_rfl) (by kernel_rfl) (by kernel_rfl) (fun _ _ _ h => h) (Or.inl ⟨by rfl, ?y29⟩) hHeld ?r29
  case y29 => (intro W hSW; obtain ⟨q0, q1, q2, q3⟩ := hSW; go_simp; try with_reducible rfl)
  simp only [Act.put, List.setIfInBounds_toArray, List.set_cons_zero, List.set_cons_succ]
  refine wpAnyH_done (by kernel_rfl) ?_ _
  have hG17 := box_step hG15 c17
  have hY17 := box_step hY15 c17
  have hZ17 := box_step hZ15 c17
  have b17 := b15.trans (c17.mono b15.size)
  replace hH2 := hH2.later c17
  replace o3 := o3.later c17
  replace hHg := hHg.later c17
  clear hHeld s14 hH3 hpl3 hb16 hb17 c16 c17 hG15 hY15 hZ15 b15
  go_upto_region 16 with fail
  have s16 : ∀ {W : World}, Below v17.heap.size v17 W → W.cell? ⟨Z, 0, none⟩ = some (.string kd) ∧ W.cell? ⟨Z, 1, none⟩ = some (.slice (some ⟨g3, 0, none⟩) M.length M.length) ∧ W.cell? ⟨w.heap.size + 1, 0, none⟩ = some (.string kd) ∧ W.cell? ⟨w.heap.size + 1, 1, none⟩ = some (.slice b M.length cb) := fun {W} h =>
    ⟨(box2_cell (box_step hZ17 h)).1, (box2_cell (box_step hZ17 h)).2.1, (box2_cell (F8.out (b17.trans (h.mono b17.size))).2.1).1, (box2_cell (F8.out (b17.trans (h.mono b17.size))).2.1).2.1⟩
  refine wp_region_held_drew (S := fun W => W.cell? ⟨Z, 0, none⟩ = some (.string kd) ∧ W.cell? ⟨Z, 1, none⟩ = some (.slice (some ⟨g3, 0, none⟩) M.length M.length) ∧ W.cell? ⟨w.heap.size + 1, 0, none⟩ = some (.string kd) ∧ W.cell? ⟨w.heap.size + 1, 1, none⟩ = some (.slice b M.length cb)) (by kernel_rfl) (s16 (Below.refl _ _).drew) (fun hHeld => ?_)
  refine wpAnyH_take (i := 0) (oi := Oper.mk (some 69) _ _ _ _ _) (v := ?v30) rfl (by kernel_rfl) (by kernel_rfl) (by kernel_rfl) (fun _ _ _ h => h) (Or.inl ⟨by rfl, ?y30⟩) hHeld ?r30
  case y30 => (intro W hSW; obtain ⟨q0, q1, q2, q3⟩ := hSW; go_simp; try with_reducible rfl)
  simp only [Act.put, List.setIfInBounds_toArray, List.set_cons_zero, List.set_cons_succ]
  refine wpAnyH_take (i := 1) (oi := Oper.mk (some 70) _ _ _ _ _) (v := ?v31) rfl (by kernel_rfl) (by kernel_rfl) (by kernel_rfl) (fun _ _ _ h => h) (Or.inl ⟨by rfl, ?y31⟩) hHeld ?r31
  case y31 => (intro W hSW; obtain ⟨q0, q1, q2, q3⟩ := hSW; go_simp; try with_reducible rfl)
  simp only [Act.put, List.setIfInBounds_toArray, List.set_cons_zero, List.set_cons_succ]
  refine wpAnyH_ready (rs := [2]) (by kernel_rfl) (by simp) (AllReadyH.cons (o := Oper.mk (some 71) _ _ _ _ _) rfl (fun Kk hK => ?_) AllReadyH.nil)
  go_simp
  refine (toFact_any kd b cb M _ (HRM.out _ (F8.out b17.drew).2.2.2.2) hnM).mono ?_
  rintro e v18 ⟨g5, rfl, hg5, o5, hb18⟩
  have c18 : Below v17.heap.size v17 v18 := below_dr hb18
  refine hK.out _ _ (s16 c18) (fun hHeld => ?_)
  clear hK Kk
  refine wpAnyH_ready (rs := [3]) (by kernel_rfl) (by simp) (AllReadyH.cons (o := Oper.mk (some 72) _ _ _ _ _) rfl (fun Kk hK => ?_) AllReadyH.nil)
  go_simp
  refine (eqFact_same kd _ _ _ _ M _ (o3.later c18).rd o5.rd (by omega)).mono ?_
  rintro e v19 ⟨rfl, hb19⟩
  have c19 := c18.trans (hb19.mono c18.size)
  refine hK.out _ _ (s16 c19) (fun hHeld => ?_)
  clear hK Kk
  refine wpAnyH_take (i := 4) (oi := Oper.mk (some 73) _ _ _ _ _) (v := ?v32) rfl (by kernel_rfl) (by kernel_rfl) (by kernel_rfl) (fun _ _ _ h => h) (Or.inl ⟨by rfl, ?y32⟩) hHeld ?r32
  case y32 => (intro W hSW; obtain ⟨q0, q1, q2, q3⟩ := hSW; go_simp; try with_reducible rfl)
  simp only [Act.put, List.setIfInBounds_toArray, List.set_cons_zero, List.set_cons_succ]
  refine wpAnyH_done (by kernel_rfl) ?_ _
  have hG19 := box_step hG17 c19
  have hY19 := box_step hY17 c19
  have hZ19 := box_step hZ17 c19
  have b19 := b17.trans (c19.mono b17.size)
  replace hH2 := hH2.later c19
  replace o3 := o3.later c19
  replace hHg := hHg.later c19
  clear hHeld s16 hg5 o5 hb18 hb19 c18 c19 hG17 hY17 hZ17 b17
  obtain ⟨y0, y1, -, -⟩ := box2_cell hY19
  go_wp2_with fail
  refine (markStore_any g2 J.length 1 v8.heap.size J.length nx K2 _ hH2 (pl_len HP2.out) b19.size (by omega) (HKL.out K2 HP2.out) (by have h1 := totI_sz HP2.out; have h2 := HTot.out; omega)).mono ?_
  rintro e v20 ⟨⟨m, rfl, hm1⟩, -, hfr, hbl⟩
  have hG20 : v20.heap[G]? = some (.cells #[.slice (some ⟨g, 0, none⟩) Kw.length vg, .int .i64 R2] 29 (0, 0)) := by rw [hfr G (Array.getElem?_eq_some_iff.1 hG19).1 (HHi.out G (by omega))]; exact hG19
  have hZ20 : v20.heap[Z]? = some (.cells #[.string kd, .slice (some ⟨g3, 0, none⟩) M.length M.length] 41 (0, 0)) := by rw [hfr Z (Array.getElem?_eq_some_iff.1 hZ19).1 HApZ.out]; exact hZ19
  have o20 : OwnV v20 g3 M.length M := ownsRow_sameB o3 (fun k e => by have e2 : g3 = k := Option.some.inj e; rw [← e2]; exact hfr g3 o3.lt HAp3.out)
  have hHg20 := HoldsI.hi hHg (w' := v20) (fun q h1 h2 => hfr q h2 (HHi.out q (by omega)))
  have b20 := b19.trans hbl
  have hmB : m ≤ 33554000 := by have h1 := totI_sz HP2.out; have h2 := HTot.out; omega
  clear hm1 hfr hbl hG19 hY19 hZ19 b19 hH2 o3 hHg y0 y1
  obtain ⟨z0, z1, -, -⟩ := box2_cell hZ20
  go_wp2_with fail
  refine (markFact_i kd g3 M.length (m : Int) m M _ o20 (by omega) (by omega) rfl).mono ?_
  rintro e v21 ⟨⟨m2, rfl, hm2⟩, -, hoth, hbl⟩
  have hGg : G ≠ g3 := by have := HG3l.out; omega
  have hG21 : v21.heap[G]? = some (.cells #[.slice (some ⟨g, 0, none⟩) Kw.length vg, .int .i64 R2] 29 (0, 0)) := by rw [hoth G (Array.getElem?_eq_some_iff.1 hG20).1 hGg]; exact hG20
  have hHg21 := HoldsI.hi hHg20 (w' := v21) (fun q h1 h2 => hoth q h2 (by have := HG3l.out; omega))
  have b21 := b20.trans (hbl.mono (by omega))
  have k2 : ¬ ((m2 : Int) < 0) := by omega
  clear hm2 hoth hbl hG20 hZ20 b20 o20 hHg20 z0 z1
  obtain ⟨y0, y1, -, -⟩ := box2_cell hG21
  obtain ⟨x0, x1, -, -⟩ := box2_cell (F8.out b21).2.2.1
  go_wp2_with fail
  refine (eqStore_same _ _ _ _ Kw.length R2 Kg Kw _ hHg21.rd (F8.out b21).2.2.2.1 HGl.out (HPlg.out.trans HPlw.out.symm) hwl (HJL.out HPlg.out)).mono ?_
  rintro e v22 ⟨rfl, hb22⟩
  have hG22 := box_step hG21 hb22
  have hHg22 := hHg21.later hb22
  have b22 := b21.trans (hb22.mono b21.size)
  have hz22 : v12.heap.size ≤ v22.heap.size := by have h1 := hHg22.low; have h2 := hHg22.lt; omega
  clear hb22 hG21 hHg21 b21 y0 y1 x0 x1
  obtain ⟨y0, y1, -, -⟩ := box2_cell hG22
  go_wp2_with fail
  refine (markStore_any g vg 1 v12.heap.size Kw.length R2 Kg _ hHg22 HGl.out hz22 hwl (HJL.out HPlg.out) (by have h1 := totI_sz (HPlg.out.trans HJ1.out); have h2 := HJ2.out; omega)).mono ?_
  rintro e v23 ⟨⟨m3, rfl, hm3⟩, hHp, hfr, hbl⟩
  have hG23 : v23.heap[G]? = some (.cells #[.slice (some ⟨g, 0, none⟩) Kw.length vg, .int .i64 R2] 29 (0, 0)) := by rw [hfr G (Array.getElem?_eq_some_iff.1 hG22).1 HApG.out]; exact hG22
  have b23 := b22.trans (hbl.mono (by omega))
  have HM3 := hide hm3
  clear hm3 hfr hbl hG22 hHg22 b22 y0 y1
  obtain ⟨y0, y1, -, -⟩ := box2_cell hG23
  go_wp2_with fail
  refine (heldStore_any _ vg 1 Kw.length R2 Kg _ hHp.rd HGl.out hwl (HJL.out HPlg.out) (by have h1 := totI_sz (HPlg.out.trans HJ1.out); have h2 := HJ2.out; omega)).mono ?_
  rintro e v24 ⟨⟨r4, rfl, hr4⟩, hb24⟩
  obtain rfl : r4 = m3 := by have := HM3.out; omega
  have hG24 := box_step hG23 hb24
  replace hHp := hHp.later hb24
  have b24 := b23.trans (hb24.mono b23.size)
  have k4 : ¬ ((r4 : Int) < 0) := by omega
  have k5 : ((r4 : Int) != (r4 : Int)) = false := by simp
  clear hr4 hb24 hG23 b23 y0 y1
  have HB0 := (F8.out b24).2.2.2.2
  have s8 : ∀ {W : World}, Below v24.heap.size v24 W → W.cell? ⟨w.heap.size, 0, none⟩ = some (.slice a J.length cap) ∧ W.cell? ⟨w.heap.size, 1, none⟩ = some (.int .i64 nx) ∧ W.cell? ⟨w.heap.size + 1, 0, none⟩ = some (.string kd) ∧ W.cell? ⟨w.heap.size + 1, 1, none⟩ = some (.slice b M.length cb) := fun {W} h =>
    ⟨(box2_cell (F8.out (b24.trans (h.mono b24.size))).1).1, (box2_cell (F8.out (b24.trans (h.mono b24.size))).1).2.1, (box2_cell (F8.out (b24.trans (h.mono b24.size))).2.1).1, (box2_cell (F8.out (b24.trans (h.mono b24.size))).2.1).2.1⟩
  go_upto_region 31 with fail
  go_cut [17, 18, 19] (fun i6 i7 i8 W => ∃ X2 va2 vc2 Kh, i6 = .pointer (some ⟨X2, 0, none⟩) ∧ i7 = .int .i64 R1 ∧ i8 = .bool (decide (0 < R1)) ∧ W.heap[X2]? = some (.cells #[.slice va2 Kh.length vc2, .int .i64 R2] 29 (0, 0)) ∧ RdI W va2 Kh ∧ Kh.map It.pl = R3 ∧ v24.heap.size ≤ X2 ∧ Below v24.heap.size v24 W)
  case first =>
    have B0 : Below v24.heap.size v24 v24 := Below.refl _ _
    refine wp_region_held_drew (S := fun W => W.cell? ⟨w.heap.size, 0, none⟩ = some (.slice a J.length cap) ∧ W.cell? ⟨w.heap.size, 1, none⟩ = some (.int .i64 nx) ∧ W.cell? ⟨w.heap.size + 1, 0, none⟩ = some (.string kd) ∧ W.cell? ⟨w.heap.size + 1, 1, none⟩ = some (.slice b M.length cb)) (by kernel_rfl) (s8 B0.drew) (fun hHeld => ?_)
    refine wpAnyH_take (i := 0) (oi := Oper.mk (some 110) _ _ _ _ _) (v := ?v33) rfl (by kernel_rfl) (by kernel_rfl) (by kernel_rfl) (fun _ _ _ h => h) (Or.inl ⟨by rfl, ?y33⟩) hHeld ?r33
    case y33 => (intro W hSW; obtain ⟨q0, q1, q2, q3⟩ := hSW; go_simp; try with_reducible rfl)
    simp only [Act.put, List.setIfInBounds_toArray, List.set_cons_zero, List.set_cons_succ]
    refine wpAnyH_take (i := 2) (oi := Oper.mk (some 112) _ _ _ _ _) (v := ?v34) rfl (by kernel_rfl) (by kernel_rfl) (by kernel_rfl) (fun _ _ _ h => h) (Or.inl ⟨by rfl, ?y34⟩) hHeld ?r34
    case y34 => (intro W hSW; obtain ⟨q0, q1, q2, q3⟩ := hSW; go_simp; try with_reducible rfl)
    simp only [Act.put, List.setIfInBounds_toArray, List.set_cons_zero, List.set_cons_succ]
    refine wpAnyH_ready (rs := [1, 9]) (by kernel_rfl) (by simp) (AllReadyH.cons (o := Oper.mk (some 111) _ _ _ _ _) rfl (fun Kk hK => ?_) (AllReadyH.cons (o := Oper.mk (some 17) _ _ _ _ _) rfl (fun Kk hK => ?_) AllReadyH.nil))
    · go_simp
      refine (toStore_any a cap J nx _ (HRD.out _ (HB0.trans (B0.drew.mono HB0.size))) hn HL.out).mono ?_
      rintro e x1 ⟨K1, g1, rfl, hH1, hpl1, hb1⟩
      have B1 : Below v24.heap.size v24 x1 := B0.drew.trans (hb1.mono B0.drew.size)
      refine hK.out _ _ (s8 B1) (fun hHeld => ?_)
      clear hK Kk
      refine wpAnyH_ready (rs := [3, 9]) (by kernel_rfl) (by simp) (AllReadyH.cons (o := Oper.mk (some 113) _ _ _ _ _) rfl (fun Kk hK => ?_) (AllReadyH.cons (o := Oper.mk (some 17) _ _ _ _ _) rfl (fun Kk hK => ?_) AllReadyH.nil))
      · go_simp
        refine (toFact_any kd b cb M _ (HRM.out _ (HB0.trans (B1.mono HB0.size))) hnM).mono ?_
        rintro e x2 ⟨g3, rfl, hg3, o2, hb2⟩
        have hH2 := hH1.later hb2
        have B2 : Below v24.heap.size v24 x2 := B1.trans (hb2.mono B1.size)
        refine hK.out _ _ (s8 B2) (fun hHeld => ?_)
        clear hK Kk
        refine wpAnyH_ready (rs := [4, 9]) (by kernel_rfl) (by simp) (AllReadyH.cons (o := Oper.mk (some 114) _ _ _ _ _) rfl (fun Kk hK => ?_) (AllReadyH.cons (o := Oper.mk (some 17) _ _ _ _ _) rfl (fun Kk hK => ?_) AllReadyH.nil))
        · go_simp
          refine (implAssert_any _ _ J.length J.length M.length nx kd K1 M _ hH2.rd (pl_len hpl1) (by omega) (okI_pl hpl1 HS.out) (HKL.out K1 hpl1) hH2.lies o2.rd hkd HSM.out (by omega) o2.lies (HTab.out.later (HB0.trans (B2.mono HB0.size)) (Nat.le_refl _))).mono ?_
          rw [asR_pl hpl1, HA.out]
          rintro e x3 ⟨gw, vc, Kw, rfl, hV3, hplw, hb3⟩
          have B3 : Below v24.heap.size v24 x3 := B2.trans (hb3.mono B2.size)
          refine hK.out _ _ (s8 B3) (fun hHeld => ?_)
          clear hK Kk
          refine wpAnyH_take (i := 5) (oi := Oper.mk (some 109) _ _ _ _ _) (v := ?v35) rfl (by kernel_rfl) (by kernel_rfl) (by kernel_rfl) (fun _ _ _ h => h) (Or.inl ⟨by rfl, ?y35⟩) hHeld ?r35
          case y35 => (intro W hSW; obtain ⟨q0, q1, q2, q3⟩ := hSW; go_simp; try with_reducible rfl)
          simp only [Act.put, List.setIfInBounds_toArray, List.set_cons_zero, List.set_cons_succ]
          refine wpAnyH_take (i := 6) (oi := Oper.mk (some 115) _ _ _ _ _) (v := ?v36) rfl (by kernel_rfl) (by kernel_rfl) (by kernel_rfl) (fun _ _ _ h => h) (Or.inl ⟨by rfl, ?y36⟩) hHeld ?r36
          case y36 => (intro W hSW; obtain ⟨q0, q1, q2, q3⟩ := hSW; go_simp; try with_reducible rfl)
          simp only [Act.put, List.setIfInBounds_toArray, List.set_cons_zero, List.set_cons_succ]
          refine wpAnyH_take (i := 7) (oi := Oper.mk (some 116) _ _ _ _ _) (v := ?v37) rfl (by kernel_rfl) (by kernel_rfl) (by kernel_rfl) (fun _ _ _ h => h) (Or.inl ⟨by rfl, ?y37⟩) hHeld ?r37
          case y37 => (intro W hSW; obtain ⟨q0, q1, q2, q3⟩ := hSW; go_simp; try with_reducible rfl)
          simp only [Act.put, List.setIfInBounds_toArray, List.set_cons_zero, List.set_cons_succ]
          refine wpAnyH_take (i := 8) (oi := Oper.mk (some 117) _ _ _ _ _) (v := ?v38) rfl (by kernel_rfl) (by kernel_rfl) (by kernel_rfl) (fun _ _ _ h => h) (Or.inl ⟨by rfl, ?y38⟩) hHeld ?r38
          case y38 => (intro W hSW; obtain ⟨q0, q1, q2, q3⟩ := hSW; go_simp; try with_reducible rfl)
          simp only [Act.put, List.setIfInBounds_toArray, List.set_cons_zero, List.set_cons_succ]
          refine wpAnyH_ready (rs := [9]) (by kernel_rfl) (by simp) (AllReadyH.cons (o := Oper.mk (some 17) _ _ _ _ _) rfl (fun Kk hK => ?_) AllReadyH.nil)
          have B4 := B3.alloc B3.size (.cells #[.slice none 0 0, .int .i64 0] 29)
          have X4 := box2_new x3 (.slice none 0 0) (.int .i64 0) 29
          have hX4 : v24.heap.size ≤ x3.heap.size := B3.size
          have hV4 := hV3.later (below_al x3 (.cells #[.slice none 0 0, .int .i64 0] 29))
          go_simp
          refine hK.out _ _ (s8 B4) (fun hHeld => ?_)
          clear hK Kk
          refine wpAnyH_ready (rs := [10]) (by kernel_rfl) (by simp) (AllReadyH.cons (o := Oper.mk none _ _ _ _ _) rfl (fun Kk hK => ?_) AllReadyH.nil)
          have Be := B3.alloc B3.size (.cells #[.slice (some ⟨gw, 0, none⟩) Kw.length vc, .int .i64 R2] 29)
          have ce := box2_new x3 (.slice (some ⟨gw, 0, none⟩) Kw.length vc) (.int .i64 R2) 29
          have Ve := hV3.later (below_al x3 (.cells #[.slice (some ⟨gw, 0, none⟩) Kw.length vc, .int .i64 R2] 29))
          clear B4 X4
          go_simp
          refine hK.out _ _ (s8 Be) (fun hHeld => ?_)
          clear hK Kk
          refine wpAnyH_take (i := 11) (oi := Oper.mk (some 18) _ _ _ _ _) (v := ?v39) rfl (by kernel_rfl) (by kernel_rfl) (by kernel_rfl) (fun _ _ _ h => h) (Or.inl ⟨by rfl, ?y39⟩) hHeld ?r39
          case y39 => (intro W hSW; obtain ⟨q0, q1, q2, q3⟩ := hSW; go_simp; try with_reducible rfl)
          simp only [Act.put, List.setIfInBounds_toArray, List.set_cons_zero, List.set_cons_succ]
          refine wpAnyH_take (i := 12) (oi := Oper.mk (some 19) _ _ _ _ _) (v := ?v40) rfl (by kernel_rfl) (by kernel_rfl) (by kernel_rfl) (fun _ _ _ h => h) (Or.inl ⟨by rfl, ?y40⟩) hHeld ?r40
          case y40 => (intro W hSW; obtain ⟨q0, q1, q2, q3⟩ := hSW; go_simp; try with_reducible rfl)
          simp only [Act.put, List.setIfInBounds_toArray, List.set_cons_zero, List.set_cons_succ]
          refine wpAnyH_done (by kernel_rfl) ?_ _
          clear hHeld
          go_wp2_with fail
          go_meet
          exact ⟨_, (some ⟨gw, 0, none⟩), vc, Kw, rfl, rfl, rfl, ce, HV.rdw Ve, hplw, hX4, Be⟩
        · have B3 := B2.alloc B2.size (.cells #[.slice none 0 0, .int .i64 0] 29)
          have X3 := box2_new x2 (.slice none 0 0) (.int .i64 0) 29
          have hX3 : v24.heap.size ≤ x2.heap.size := B2.size
          have hH3 := hH2.later (below_al x2 (.cells #[.slice none 0 0, .int .i64 0] 29))
          have o3 := o2.later (below_al x2 (.cells #[.slice none 0 0, .int .i64 0] 29))
          go_simp
          refine hK.out _ _ (s8 B3) (fun hHeld => ?_)
          clear hK Kk
          refine wpAnyH_ready (rs := [4]) (by kernel_rfl) (by simp) (AllReadyH.cons (o := Oper.mk (some 114) _ _ _ _ _) rfl (fun Kk hK => ?_) AllReadyH.nil)
          go_simp
          refine (implAssert_any _ _ J.length J.length M.length nx kd K1 M _ hH3.rd (pl_len hpl1) (by omega) (okI_pl hpl1 HS.out) (HKL.out K1 hpl1) hH3.lies o3.rd hkd HSM.out (by omega) o3.lies (HTab.out.later (HB0.trans (B3.mono HB0.size)) (Nat.le_refl _))).mono ?_
          rw [asR_pl hpl1, HA.out]
          rintro e x4 ⟨gw, vc, Kw, rfl, hV4, hplw, hb4⟩
          have B4 : Below v24.heap.size v24 x4 := B3.trans (hb4.mono B3.size)
          have X4 := box_step X3 hb4
          refine hK.out _ _ (s8 B4) (fun hHeld => ?_)
          clear hK Kk
          refine wpAnyH_take (i := 5) (oi := Oper.mk (some 109) _ _ _ _ _) (v := ?v41) rfl (by kernel_rfl) (by kernel_rfl) (by kernel_rfl) (fun _ _ _ h => h) (Or.inl ⟨by rfl, ?y41⟩) hHeld ?r41
          case y41 => (intro W hSW; obtain ⟨q0, q1, q2, q3⟩ := hSW; go_simp; try with_reducible rfl)
          simp only [Act.put, List.setIfInBounds_toArray, List.set_cons_zero, List.set_cons_succ]
          refine wpAnyH_take (i := 6) (oi := Oper.mk (some 115) _ _ _ _ _) (v := ?v42) rfl (by kernel_rfl) (by kernel_rfl) (by kernel_rfl) (fun _ _ _ h => h) (Or.inl ⟨by rfl, ?y42⟩) hHeld ?r42
          case y42 => (intro W hSW; obtain ⟨q0, q1, q2, q3⟩ := hSW; go_simp; try with_reducible rfl)
          simp only [Act.put, List.setIfInBounds_toArray, List.set_cons_zero, List.set_cons_succ]
          refine wpAnyH_take (i := 7) (oi := Oper.mk (some 116) _ _ _ _ _) (v := ?v43) rfl (by kernel_rfl) (by kernel_rfl) (by kernel_rfl) (fun _ _ _ h => h) (Or.inl ⟨by rfl, ?y43⟩) hHeld ?r43
          case y43 => (intro W hSW; obtain ⟨q0, q1, q2, q3⟩ := hSW; go_simp; try with_reducible rfl)
          simp only [Act.put, List.setIfInBounds_toArray, List.set_cons_zero, List.set_cons_succ]
          refine wpAnyH_take (i := 8) (oi := Oper.mk (some 117) _ _ _ _ _) (v := ?v44) rfl (by kernel_rfl) (by kernel_rfl) (by kernel_rfl) (fun _ _ _ h => h) (Or.inl ⟨by rfl, ?y44⟩) hHeld ?r44
          case y44 => (intro W hSW; obtain ⟨q0, q1, q2, q3⟩ := hSW; go_simp; try with_reducible rfl)
          simp only [Act.put, List.setIfInBounds_toArray, List.set_cons_zero, List.set_cons_succ]
          refine wpAnyH_ready (rs := [10]) (by kernel_rfl) (by simp) (AllReadyH.cons (o := Oper.mk none _ _ _ _ _) rfl (fun Kk hK => ?_) AllReadyH.nil)
          obtain ⟨z0, z1, y0, y1⟩ := box2_cell X4
          have st := box2_set X4 (.slice (some ⟨gw, 0, none⟩) Kw.length vc) (.int .i64 R2)
          have Be := B4.grown st.2 B4.size (fun q e => by have e2 := Option.some.inj e; rw [← e2]; exact hX3)
          have ce := st.1
          have Ve := HV.box hV4 X4 st.2
          go_simp
          refine hK.out _ _ (s8 Be) (fun hHeld => ?_)
          clear hK Kk
          refine wpAnyH_take (i := 11) (oi := Oper.mk (some 18) _ _ _ _ _) (v := ?v45) rfl (by kernel_rfl) (by kernel_rfl) (by kernel_rfl) (fun _ _ _ h => h) (Or.inl ⟨by rfl, ?y45⟩) hHeld ?r45
          case y45 => (intro W hSW; obtain ⟨q0, q1, q2, q3⟩ := hSW; go_simp; try with_reducible rfl)
          simp only [Act.put, List.setIfInBounds_toArray, List.set_cons_zero, List.set_cons_succ]
          refine wpAnyH_take (i := 12) (oi := Oper.mk (some 19) _ _ _ _ _) (v := ?v46) rfl (by kernel_rfl) (by kernel_rfl) (by kernel_rfl) (fun _ _ _ h => h) (Or.inl ⟨by rfl, ?y46⟩) hHeld ?r46
          case y46 => (intro W hSW; obtain ⟨q0, q1, q2, q3⟩ := hSW; go_simp; try with_reducible rfl)
          simp only [Act.put, List.setIfInBounds_toArray, List.set_cons_zero, List.set_cons_succ]
          refine wpAnyH_done (by kernel_rfl) ?_ _
          clear hHeld
          go_wp2_with fail
          go_meet
          exact ⟨_, (some ⟨gw, 0, none⟩), vc, Kw, rfl, rfl, rfl, ce, HV.rdw Ve, hplw, hX3, Be⟩
      · have B2 := B1.alloc B1.size (.cells #[.slice none 0 0, .int .i64 0] 29)
        have X2 := box2_new x1 (.slice none 0 0) (.int .i64 0) 29
        have hX2 : v24.heap.size ≤ x1.heap.size := B1.size
        have hH2 := hH1.later (below_al x1 (.cells #[.slice none 0 0, .int .i64 0] 29))
        go_simp
        refine hK.out _ _ (s8 B2) (fun hHeld => ?_)
        clear hK Kk
        refine wpAnyH_ready (rs := [3]) (by kernel_rfl) (by simp) (AllReadyH.cons (o := Oper.mk (some 113) _ _ _ _ _) rfl (fun Kk hK => ?_) AllReadyH.nil)
        go_simp
        refine (toFact_any kd b cb M _ (HRM.out _ (HB0.trans (B2.mono HB0.size))) hnM).mono ?_
        rintro e x3 ⟨g3, rfl, hg3, o3, hb3⟩
        have hH3 := hH2.later hb3
        have B3 : Below v24.heap.size v24 x3 := B2.trans (hb3.mono B2.size)
        have X3 := box_step X2 hb3
        refine hK.out _ _ (s8 B3) (fun hHeld => ?_)
        clear hK Kk
        refine wpAnyH_ready (rs := [4]) (by kernel_rfl) (by simp) (AllReadyH.cons (o := Oper.mk (some 114) _ _ _ _ _) rfl (fun Kk hK => ?_) AllReadyH.nil)
        go_simp
        refine (implAssert_any _ _ J.length J.length M.length nx kd K1 M _ hH3.rd (pl_len hpl1) (by omega) (okI_pl hpl1 HS.out) (HKL.out K1 hpl1) hH3.lies o3.rd hkd HSM.out (by omega) o3.lies (HTab.out.later (HB0.trans (B3.mono HB0.size)) (Nat.le_refl _))).mono ?_
        rw [asR_pl hpl1, HA.out]
        rintro e x4 ⟨gw, vc, Kw, rfl, hV4, hplw, hb4⟩
        have B4 : Below v24.heap.size v24 x4 := B3.trans (hb4.mono B3.size)
        have X4 := box_step X3 hb4
        refine hK.out _ _ (s8 B4) (fun hHeld => ?_)
        clear hK Kk
        refine wpAnyH_take (i := 5) (oi := Oper.mk (some 109) _ _ _ _ _) (v := ?v47) rfl (by kernel_rfl) (by kernel_rfl) (by kernel_rfl) (fun _ _ _ h => h) (Or.inl ⟨by rfl, ?y47⟩) hHeld ?r47
        case y47 => (intro W hSW; obtain ⟨q0, q1, q2, q3⟩ := hSW; go_simp; try with_reducible rfl)
        simp only [Act.put, List.setIfInBounds_toArray, List.set_cons_zero, List.set_cons_succ]
        refine wpAnyH_take (i := 6) (oi := Oper.mk (some 115) _ _ _ _ _) (v := ?v48) rfl (by kernel_rfl) (by kernel_rfl) (by kernel_rfl) (fun _ _ _ h => h) (Or.inl ⟨by rfl, ?y48⟩) hHeld ?r48
        case y48 => (intro W hSW; obtain ⟨q0, q1, q2, q3⟩ := hSW; go_simp; try with_reducible rfl)
        simp only [Act.put, List.setIfInBounds_toArray, List.set_cons_zero, List.set_cons_succ]
        refine wpAnyH_take (i := 7) (oi := Oper.mk (some 116) _ _ _ _ _) (v := ?v49) rfl (by kernel_rfl) (by kernel_rfl) (by kernel_rfl) (fun _ _ _ h => h) (Or.inl ⟨by rfl, ?y49⟩) hHeld ?r49
        case y49 => (intro W hSW; obtain ⟨q0, q1, q2, q3⟩ := hSW; go_simp; try with_reducible rfl)
        simp only [Act.put, List.setIfInBounds_toArray, List.set_cons_zero, List.set_cons_succ]
        refine wpAnyH_take (i := 8) (oi := Oper.mk (some 117) _ _ _ _ _) (v := ?v50) rfl (by kernel_rfl) (by kernel_rfl) (by kernel_rfl) (fun _ _ _ h => h) (Or.inl ⟨by rfl, ?y50⟩) hHeld ?r50
        case y50 => (intro W hSW; obtain ⟨q0, q1, q2, q3⟩ := hSW; go_simp; try with_reducible rfl)
        simp only [Act.put, List.setIfInBounds_toArray, List.set_cons_zero, List.set_cons_succ]
        refine wpAnyH_ready (rs := [10]) (by kernel_rfl) (by simp) (AllReadyH.cons (o := Oper.mk none _ _ _ _ _) rfl (fun Kk hK => ?_) AllReadyH.nil)
        obtain ⟨z0, z1, y0, y1⟩ := box2_cell X4
        have st := box2_set X4 (.slice (some ⟨gw, 0, none⟩) Kw.length vc) (.int .i64 R2)
        have Be := B4.grown st.2 B4.size (fun q e => by have e2 := Option.some.inj e; rw [← e2]; exact hX2)
        have ce := st.1
        have Ve := HV.box hV4 X4 st.2
        go_simp
        refine hK.out _ _ (s8 Be) (fun hHeld => ?_)
        clear hK Kk
        refine wpAnyH_take (i := 11) (oi := Oper.mk (some 18) _ _ _ _ _) (v := ?v51) rfl (by kernel_rfl) (by kernel_rfl) (by kernel_rfl) (fun _ _ _ h => h) (Or.inl ⟨by rfl, ?y51⟩) hHeld ?r51
        case y51 => (intro W hSW; obtain ⟨q0, q1, q2, q3⟩ := hSW; go_simp; try with_reducible rfl)
        simp only [Act.put, List.setIfInBounds_toArray, List.set_cons_zero, List.set_cons_succ]
        refine wpAnyH_take (i := 12) (oi := Oper.mk (some 19) _ _ _ _ _) (v := ?v52) rfl (by kernel_rfl) (by kernel_rfl) (by kernel_rfl) (fun _ _ _ h => h) (Or.inl ⟨by rfl, ?y52⟩) hHeld ?r52
        case y52 => (intro W hSW; obtain ⟨q0, q1, q2, q3⟩ := hSW; go_simp; try with_reducible rfl)
        simp only [Act.put, List.setIfInBounds_toArray, List.set_cons_zero, List.set_cons_succ]
        refine wpAnyH_done (by kernel_rfl) ?_ _
        clear hHeld
        go_wp2_with fail
        go_meet
        exact ⟨_, (some ⟨gw, 0, none⟩), vc, Kw, rfl, rfl, rfl, ce, HV.rdw Ve, hplw, hX2, Be⟩
    · have B1 := B0.alloc B0.size (.cells #[.slice none 0 0, .int .i64 0] 29)
      have X1 := box2_new v24 (.slice none 0 0) (.int .i64 0) 29
      have hX1 : v24.heap.size ≤ v24.heap.size := B0.size
      go_simp
      refine hK.out _ _ (s8 B1.drew) (fun hHeld => ?_)
      clear hK Kk
      refine wpAnyH_ready (rs := [1]) (by kernel_rfl) (by simp) (AllReadyH.cons (o := Oper.mk (some 111) _ _ _ _ _) rfl (fun Kk hK => ?_) AllReadyH.nil)
      go_simp
      refine (toStore_any a cap J nx _ (HRD.out _ (HB0.trans (B1.drew.mono HB0.size))) hn HL.out).mono ?_
      rintro e x2 ⟨K1, g1, rfl, hH2, hpl1, hb2⟩
      have B2 : Below v24.heap.size v24 x2 := B1.drew.trans (hb2.mono B1.drew.size)
      have X2 := box_drw X1 hb2
      refine hK.out _ _ (s8 B2) (fun hHeld => ?_)
      clear hK Kk
      refine wpAnyH_ready (rs := [3]) (by kernel_rfl) (by simp) (AllReadyH.cons (o := Oper.mk (some 113) _ _ _ _ _) rfl (fun Kk hK => ?_) AllReadyH.nil)
      go_simp
      refine (toFact_any kd b cb M _ (HRM.out _ (HB0.trans (B2.mono HB0.size))) hnM).mono ?_
      rintro e x3 ⟨g3, rfl, hg3, o3, hb3⟩
      have hH3 := hH2.later hb3
      have B3 : Below v24.heap.size v24 x3 := B2.trans (hb3.mono B2.size)
      have X3 := box_step X2 hb3
      refine hK.out _ _ (s8 B3) (fun hHeld => ?_)
      clear hK Kk
      refine wpAnyH_ready (rs := [4]) (by kernel_rfl) (by simp) (AllReadyH.cons (o := Oper.mk (some 114) _ _ _ _ _) rfl (fun Kk hK => ?_) AllReadyH.nil)
      go_simp
      refine (implAssert_any _ _ J.length J.length M.length nx kd K1 M _ hH3.rd (pl_len hpl1) (by omega) (okI_pl hpl1 HS.out) (HKL.out K1 hpl1) hH3.lies o3.rd hkd HSM.out (by omega) o3.lies (HTab.out.later (HB0.trans (B3.mono HB0.size)) (Nat.le_refl _))).mono ?_
      rw [asR_pl hpl1, HA.out]
      rintro e x4 ⟨gw, vc, Kw, rfl, hV4, hplw, hb4⟩
      have B4 : Below v24.heap.size v24 x4 := B3.trans (hb4.mono B3.size)
      have X4 := box_step X3 hb4
      refine hK.out _ _ (s8 B4) (fun hHeld => ?_)
      clear hK Kk
      refine wpAnyH_take (i := 5) (oi := Oper.mk (some 109) _ _ _ _ _) (v := ?v53) rfl (by kernel_rfl) (by kernel_rfl) (by kernel_rfl) (fun _ _ _ h => h) (Or.inl ⟨by rfl, ?y53⟩) hHeld ?r53
      case y53 => (intro W hSW; obtain ⟨q0, q1, q2, q3⟩ := hSW; go_simp; try with_reducible rfl)
      simp only [Act.put, List.setIfInBounds_toArray, List.set_cons_zero, List.set_cons_succ]
      refine wpAnyH_take (i := 6) (oi := Oper.mk (some 115) _ _ _ _ _) (v := ?v54) rfl (by kernel_rfl) (by kernel_rfl) (by kernel_rfl) (fun _ _ _ h => h) (Or.inl ⟨by rfl, ?y54⟩) hHeld ?r54
      case y54 => (intro W hSW; obtain ⟨q0, q1, q2, q3⟩ := hSW; go_simp; try with_reducible rfl)
      simp only [Act.put, List.setIfInBounds_toArray, List.set_cons_zero, List.set_cons_succ]
      refine wpAnyH_take (i := 7) (oi := Oper.mk (some 116) _ _ _ _ _) (v := ?v55) rfl (by kernel_rfl) (by kernel_rfl) (by kernel_rfl) (fun _ _ _ h => h) (Or.inl ⟨by rfl, ?y55⟩) hHeld ?r55
      case y55 => (intro W hSW; obtain ⟨q0, q1, q2, q3⟩ := hSW; go_simp; try with_reducible rfl)
      simp only [Act.put, List.setIfInBounds_toArray, List.set_cons_zero, List.set_cons_succ]
      refine wpAnyH_take (i := 8) (oi := Oper.mk (some 117) _ _ _ _ _) (v := ?v56) rfl (by kernel_rfl) (by kernel_rfl) (by kernel_rfl) (fun _ _ _ h => h) (Or.inl ⟨by rfl, ?y56⟩) hHeld ?r56
      case y56 => (intro W hSW; obtain ⟨q0, q1, q2, q3⟩ := hSW; go_simp; try with_reducible rfl)
      simp only [Act.put, List.setIfInBounds_toArray, List.set_cons_zero, List.set_cons_succ]
      refine wpAnyH_ready (rs := [10]) (by kernel_rfl) (by simp) (AllReadyH.cons (o := Oper.mk none _ _ _ _ _) rfl (fun Kk hK => ?_) AllReadyH.nil)
      obtain ⟨z0, z1, y0, y1⟩ := box2_cell X4
      have st := box2_set X4 (.slice (some ⟨gw, 0, none⟩) Kw.length vc) (.int .i64 R2)
      have Be := B4.grown st.2 B4.size (fun q e => by have e2 := Option.some.inj e; rw [← e2]; exact hX1)
      have ce := st.1
      have Ve := HV.box hV4 X4 st.2
      go_simp
      refine hK.out _ _ (s8 Be) (fun hHeld => ?_)
      clear hK Kk
      refine wpAnyH_take (i := 11) (oi := Oper.mk (some 18) _ _ _ _ _) (v := ?v57) rfl (by kernel_rfl) (by kernel_rfl) (by kernel_rfl) (fun _ _ _ h => h) (Or.inl ⟨by rfl, ?y57⟩) hHeld ?r57
      case y57 => (intro W hSW; obtain ⟨q0, q1, q2, q3⟩ := hSW; go_simp; try with_reducible rfl)
      simp only [Act.put, List.setIfInBounds_toArray, List.set_cons_zero, List.set_cons_succ]
      refine wpAnyH_take (i := 12) (oi := Oper.mk (some 19) _ _ _ _ _) (v := ?v58) rfl (by kernel_rfl) (by kernel_rfl) (by kernel_rfl) (fun _ _ _ h => h) (Or.inl ⟨by rfl, ?y58⟩) hHeld ?r58
      case y58 => (intro W hSW; obtain ⟨q0, q1, q2, q3⟩ := hSW; go_simp; try with_reducible rfl)
      simp only [Act.put, List.setIfInBounds_toArray, List.set_cons_zero, List.set_cons_succ]
      refine wpAnyH_done (by kernel_rfl) ?_ _
      clear hHeld
      go_wp2_with fail
      go_meet
      exact ⟨_, (some ⟨gw, 0, none⟩), vc, Kw, rfl, rfl, rfl, ce, HV.rdw Ve, hplw, hX1, Be⟩
  case rest =>
  obtain ⟨X2, va2, vc2, Kh, rfl, rfl, rfl, hXh, hrh, hplh, hXl, hb31⟩ := hcut
  have hhl : Kh.length = Kw.length := pl_len (hplh.trans HPlw.out.symm)
  rw [hhl] at hXh
  have b31 := b24.trans (hb31.mono b24.size)
  have hG31 := box_step hG24 hb31
  replace hHp := hHp.later hb31
  have HHl := hide hhl
  have HPlh := hide hplh
  clear hhl hplh hb31 hG24 b24 s8 hXl
  obtain ⟨y0, y1, -, -⟩ := box2_cell hXh
  obtain ⟨x0, x1, -, -⟩ := box2_cell (F8.out b31).2.2.1
  go_wp2_with fail
  refine (eqStore_same _ _ _ _ Kw.length R2 Kh Kw _ hrh (F8.out b31).2.2.2.1 HHl.out (HPlh.out.trans HPlw.out.symm) hwl (HJL.out HPlh.out)).mono ?_
  rintro e v32 ⟨rfl, hb32⟩
  have hG32 := box_step hG31 hb32
  replace hHp := hHp.later hb32
  have b32 := b31.trans (hb32.mono b31.size)
  clear hb32 hG31 b31 y0 y1 x0 x1 hrh hXh
  obtain ⟨y0, y1, -, -⟩ := box2_cell hG32
  go_wp2_with fail
  refine (heldStore_any _ vg 1 Kw.length R2 Kg _ hHp.rd HGl.out hwl (HJL.out HPlg.out) (by have h1 := totI_sz (HPlg.out.trans HJ1.out); have h2 := HJ2.out; omega)).mono ?_
  rintro e v33 ⟨⟨r5, rfl, hr5⟩, hb33⟩
  obtain rfl : r5 = r4 := by have := HM3.out; omega
  have b33 := b32.trans (hb33.mono b32.size)
  have Bend := (F8.out b33).2.2.2.2
  clear hr5 hb33 hG32 b32 b33 y0 y1 hHp
  go_wp2
  go_ret
  exact ⟨rfl, Bend⟩

theorem own : ownKnob Tryd.prog.godebug = none := by kernel_rfl
theorem laidOut : laidOutB Tryd.prog = true := by kernel_rfl

theorem door_met (os : Os) (args : Array Value) : laidMetH Tryd.prog Rows.fnExactAssertRow.laid ((World.doorLaid Tryd.prog 400 os).forCall (fun _ _ => 0) ⟨#[], args, []⟩).memory :=
  laidMetH_of_parts3 (fuel := 8) (laidMet_of_run' 8 (by kernel_rfl) (by kernel_rfl)) (by kernel_rfl) (by kernel_rfl)
theorem laid_plain {W : World} (h : laidMetH Tryd.prog Rows.fnExactAssertRow.laid W) : laidMet Tryd.prog Rows.fnExactAssertRow.laid W := by
  rw [MakeChecks.laidMetH_plain _ _ _ (by kernel_rfl)] at h
  exact h

set_option maxRecDepth 100000 in
theorem lifted (os : Os) (started : os.Started) (H : Type) (enc : TypeId × Value → H) :
    ReturnsInHanded {} Tryd.checked os 4 .any (fun w args => (Rows.fnExactAssertSpec.pre enc Tryd.prog Tryd.f4 [] false w args ∧ laidMetH Tryd.prog Rows.fnExactAssertRow.laid w) ∧ sizedMet enc Tryd.prog Tryd.f4 (OpenSpec.ofChange Rows.fnExactAssertSpec) false w args)
      (Rows.fnExactAssertSpec.post enc Tryd.prog Tryd.f4 false true false false) := by
  refine returnsInHanded_of_change_and (C := Tryd.checked) (X := fun w _ => laidMetH Tryd.prog Rows.fnExactAssertRow.laid w) (fun _ _ _ hh h => h.of_heap hh) own started (by kernel_rfl) Tryd.func4
    (ChangeSpec.witness_shaped (enc := enc) (C := Tryd.checked) (os := os) (X := fun w _ => laidMetH Tryd.prog Rows.fnExactAssertRow.laid w) false (World.doorLaid Tryd.prog 400 os) #[.agg #[.slice none 0 0, .int .i64 0], .agg #[.string ByteArray.empty, .slice none 0 0]] 8 rfl (World.shaped_of_RefB (by kernel_rfl) (by kernel_rfl)) (by kernel_rfl) (by kernel_rfl) (by kernel_rfl) (door_met os _)) ?_
  intro W base args ds gs before hval0 hW _ _ hL _
  have hval : ∀ (j : Nat) t v, Tryd.f4.params[j]? = some t → args[j]? = some v → Value.okWide Tryd.prog W .any base t v := hval0
  have hW' := hW
  obtain ⟨p, q, hA0, hV, rfl, hfz, hnd⟩ := hW
  have hA : DataW.TrodAll enc Tryd.prog W 0 (fun _ => true) true Tryd.f4.params.toList args.toList ds p := hA0
  rw [Tryd.params4] at hA hval
  obtain ⟨v0, vs0, d0, ds0, p0, q0, hargs, rfl, rfl, h0, r0⟩ := trodAll_cons hA
  obtain ⟨v1, vs1, d1, ds1, p1, q1, rfl, rfl, rfl, h1, r1⟩ := trodAll_cons r0
  obtain ⟨rfl, rfl, rfl⟩ := trodAll_nil r1
  obtain rfl : args = #[v0, v1] := by cases args; simp_all
  obtain ⟨rfl, rfl⟩ := trodVars_none hV
  have k0 := h0
  have lt0 : ∀ x ∈ p0, x.block < W.heap.size := by obtain ⟨m, hm⟩ := k0; exact DataW.trod_lt m _ _ _ hm
  obtain ⟨c0a, c0b, y0a, y0b, m0, rfl, _, _, hy0a, hy0b⟩ := open_agg2 Tryd.underlying24 (by kernel_rfl) (by kernel_rfl) (hval 0 24 v0 rfl rfl) h0
  obtain ⟨N0, eN0, _, _⟩ := DataW.trod_int Tryd.underlying3 hy0b
  simp only [List.cons.injEq, and_true] at eN0
  subst eN0
  obtain ⟨a0, len0, cap0, J0, rfl, w0⟩ := items_in hy0a
  have k1 := h1
  have lt1 : ∀ x ∈ p1, x.block < W.heap.size := by obtain ⟨m, hm⟩ := k1; exact DataW.trod_lt m _ _ _ hm
  obtain ⟨c1a, c1b, y1a, y1b, m1, rfl, _, _, hy1a, hy1b⟩ := open_agg2 Tryd.underlying35 (by kernel_rfl) (by kernel_rfl) (hval 1 35 v1 rfl rfl) h1
  obtain ⟨S1, eS1, _, wS1⟩ := DataW.trod_string Tryd.underlying9 hy1a
  simp only [List.cons.injEq, and_true] at eS1
  subst eS1
  obtain ⟨a1, len1, cap1, L1, rfl, w1⟩ := vals_in hy1b
  clear hA0 hval0
  refine (walk a0 len0 cap0 J0 N0 S1 a1 len1 cap1 L1 W w0 wS1 w1 (tab_of (laid_plain hL))).mono fun e W' ⟨he, bel⟩ => ?_
  subst he
  exact ⟨_, rfl, _, _, _, [], _, [], hW', trodAll_mk1 (shut_bool Tryd.underlying4 _), (trodAll_cons_mk (Below.trod laidOut (by kernel_rfl) (of_decide_eq_true (by kernel_rfl)) k0 bel lt0) (trodAll_cons_mk (Below.trod laidOut (by kernel_rfl) (of_decide_eq_true (by kernel_rfl)) k1 bel lt1) trodAll_mk0)), rfl, bel.frame _, fun h => by cases h⟩

set_option maxRecDepth 100000 in
theorem over : Rows.fnExactAssertRow.holds Tryd.pinned (OpenSpec.ofChange Rows.fnExactAssertSpec) :=
  OpenClaim.holds_of_wide 4 Tryd.f4 rfl rfl rfl rfl rfl rfl rfl ⟨rfl, rfl, rfl, rfl, rfl⟩ rfl rfl rfl rfl rfl (by kernel_rfl) Tryd.func4 (by kernel_rfl)
    (of_decide_eq_true (by kernel_rfl)) (by unfold Func.isWrapper; first | (rw [if_pos (by decide +kernel)]; kernel_rfl) | (rw [if_neg (by decide +kernel)]; exact ⟨rfl, rfl⟩))
    (fun os started H enc _ => lifted os started H enc)

set_option maxRecDepth 100000 in
theorem card_over : Rows.FnExactAssertCardSaid :=
  Claim7.holds_tied_plain_at .later [] [.data, .data, .data] true Rows.fnExactAssertCard.stood.harness true
    over (fun _ h => by cases h) (by kernel_rfl) (fun _ h => by cases h) fnExactAssert_row_tie rfl ⟨rfl, rfl⟩ (by kernel_rfl) rfl
    (fun f fn hf hfn => by
      obtain rfl : f = 4 := Option.some.inj ((show Tryd.prog.funcNamed "loop.example/g00282/laws.FnExactAssert" = some 4 by kernel_rfl).symm.trans hf) |>.symm
      obtain rfl : fn = Tryd.f4 := (Option.some.inj (Tryd.func4.symm.trans hfn)).symm
      exact ⟨by kernel_rfl, fun j t ht => by
        rw [Tryd.params4] at ht
        have hm : t ∈ [24, 35] := by simpa using Array.mem_of_getElem? ht
        have hall : ([24, 35].all fun u => !Tryd.prog.wantsStandIn u) = true := by kernel_rfl
        exact (show Tryd.prog.wantsStandIn t = false by simpa using List.all_eq_true.1 hall t hm)⟩)
    (by kernel_rfl)
end Go.Proofs.YtaflokfgbmlmaadDoor.CardAssert
namespace Go.Proofs.YtaflokfgbmlmaadDoor
theorem fnExactAssertCard_holds : Rows.FnExactAssertCardSaid := CardAssert.card_over
#print axioms fnExactAssertCard_holds
end Go.Proofs.YtaflokfgbmlmaadDoor

