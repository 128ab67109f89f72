/-
  Proved: the row on FnAll (for every row of bytes the law answers true: drawn conditions all hold just if each does, and a condition has a text just if it is right; the row reads as it did, where the library's tables read as listed), and its tied card (what is listed is what the program's own text lays).
-/
import Derived.Test.YtlaoiagpoomldaaDoorJoined1
import Derived.Test.YtlaoiagpoomldaaDoorJoined2
import Derived.Test.YtlaoiagpoomldaaDoorRows
import Derived.Test.YtlaoiagpoomldaaDoorCards
import Derived.Test.YtlaoiagpoomldaaDoorTie
import Derived.ProofKit
import Derived.LaidMore
import Derived.OpenShut
import Derived.ShutString
import Derived.ChangeOld
import Derived.Below
import Derived.Stop.Joined
import Derived.Stop.LaidErr
import Derived.Lib.LaidTab
import Derived.SevenTiedAt
import Derived.Lib.SmallJoins
import Derived.Deep.RegionHeld3
namespace Go.Proofs.YtlaoiagpoomldaaDoor.CardAll
open Go.ChangeShapes Go.WideShapes Go.ChangeAt Go.RowKit Go.Joins
open Go.ChangeMaps (open_string shut_string)
set_option linter.unusedVariables false
set_option maxRecDepth 100000

theorem gT : Tryd.prog.globalNamed "internal/strconv.uint64pow10" = some 0 := by kernel_rfl
theorem gTType : (Tryd.prog.globals[0]?).map (·.type) = some 100 := by kernel_rfl
theorem tab_of {r : List (String × DataW Unit)} {a b : String × DataW Unit} {W : World} (h : laidMet Tryd.prog (a :: b :: ("internal/strconv.uint64pow10", Rows.laid_internal_strconv_uint64pow10) :: r) W) : Tab W :=
  Lib.tabIs_of_head (zs := Lib.pow10Tab) (rest := r) gT gTType Tryd.underlying100 Tryd.underlying93 (by kernel_rfl) (by kernel_rfl) h.tail.tail

set_option maxHeartbeats 400000 in
theorem big_any (a : Option Addr) (len cap : Nat) (w : World) (h : len ≤ 9223372036854775807) :
    Calls Tryd.prog 4 #[.slice a len cap] w fun e w' => e = .returned (.bool (decide ((1048576 : Int) < (len : Int)))) ∧ w' = w := by
  go_enter Tryd.func4, Tryd.ntmps4
  go_wp2
  go_ret
  exact ⟨rfl, rfl⟩
theorem cells11 {W : World} {q : Nat} {x : C11} (h : W.heap[q]? = some (.cells #[.int .i64 x.Op, .int .i64 x.L.K, .string x.L.S, .int .i64 x.L.V.K, .int .i64 x.L.V.N, .string x.L.V.S, .int .i64 x.R.K, .string x.R.S, .int .i64 x.R.V.K, .int .i64 x.R.V.N, .string x.R.V.S] 34 (0, 0))) :
    W.cell? ⟨q, 0, none⟩ = some (.int .i64 x.Op) ∧ W.cell? ⟨q, 1, none⟩ = some (.int .i64 x.L.K) ∧ W.cell? ⟨q, 2, none⟩ = some (.string x.L.S) ∧ W.cell? ⟨q, 3, none⟩ = some (.int .i64 x.L.V.K) ∧ W.cell? ⟨q, 4, none⟩ = some (.int .i64 x.L.V.N) ∧ W.cell? ⟨q, 5, none⟩ = some (.string x.L.V.S) ∧ W.cell? ⟨q, 6, none⟩ = some (.int .i64 x.R.K) ∧ W.cell? ⟨q, 7, none⟩ = some (.string x.R.S) ∧ W.cell? ⟨q, 8, none⟩ = some (.int .i64 x.R.V.K) ∧ W.cell? ⟨q, 9, none⟩ = some (.int .i64 x.R.V.N) ∧ W.cell? ⟨q, 10, none⟩ = some (.string x.R.V.S) :=
  ⟨boxk_cell h 0 _ rfl, boxk_cell h 1 _ rfl, boxk_cell h 2 _ rfl, boxk_cell h 3 _ rfl, boxk_cell h 4 _ rfl, boxk_cell h 5 _ rfl, boxk_cell h 6 _ rfl, boxk_cell h 7 _ rfl, boxk_cell h 8 _ rfl, boxk_cell h 9 _ rfl, boxk_cell h 10 _ rfl⟩
theorem all_step {M : List B4} {L : List C11} {k : Nat} (h : k < L.length) : (L.take (k + 1)).all (C11.holds M) = ((L.take k).all (C11.holds M) && (eAt L k).holds M) := by
  rw [List.take_add_one, List.getElem?_eq_getElem h, List.all_append, eAt_in h]
  simp
theorem text_none (Op : Int) (L R : A5) : (condT Op L R).toList.isEmpty = !condB Op L R := by
  cases h : condB Op L R
  · rw [condT_no h, ByteArray.toList_eq]; rfl
  · rw [condT_yes h]
    have : ¬ (L.tx ++ ⟨#[32]⟩ ++ signT Op ++ ⟨#[32]⟩ ++ R.tx).size = 0 := by
      simp only [ByteArray.size_append, show (ByteArray.mk #[32]).size = 1 from rfl]
      omega
    rw [isEmpty_false this]; rfl

set_option maxRecDepth 100000 in
set_option maxHeartbeats 6400000 in
theorem law (a : Option Addr) (cap : Nat) (code : List UInt8) (w : World) (hr : Rd w a code) (hm : code.length ≤ maxLen) (ht : Tab w) :
    Calls Tryd.prog 3 #[.slice a code.length cap] w fun e w' => e = .returned (.bool true) ∧ Below w.heap.size w w' := by
  unfold maxLen at hm
  by_cases hb : 1048576 < code.length
  · have hd : decide ((1048576 : Int) < (code.length : Int)) = true := by simp; omega
    clear ht
    go_enter Tryd.func3, Tryd.ntmps3
    go_wp2_with (go_at_call 4; refine (big_any _ _ _ _ (by omega)).mono ?_; rintro e w' ⟨rfl, rfl⟩)
    go_ret
    exact ⟨rfl, Below.refl _ _⟩
  · have hd : decide ((1048576 : Int) < (code.length : Int)) = false := by simp; omega
    have HTab := hide ht
    clear ht
    go_enter Tryd.func3, Tryd.ntmps3
    go_wp2_with fail
    refine (big_any _ _ _ _ (by omega)).mono ?_
    rintro e w' ⟨rfl, rfl⟩
    go_wp2_with fail
    refine (drawHoldAll_any a cap code w' hr (by omega)).mono ?_
    rintro e w1 ⟨g, c, L, g2, c2, M, rfl, hL3, hsm, hM3, hsM, rL, rM, B1⟩
    have HSm := hide hsm
    have HSM := hide hsM
    have HI := hide (fun Op L R (W : World) (h1 : A5.small L) (h2 : A5.small R) (h3 : RdBind W (some ⟨g2, 0, none⟩) M) => implHolds_any Op L R _ c2 M W h1 h2 h3 HSM.out (by omega))
    obtain ⟨n, hN⟩ : ∃ n, n = L.length := ⟨_, rfl⟩
    have HHA := hide (fun (W : World) (h1 : RdCond W (some ⟨g, 0, none⟩) L) (h2 : RdBind W (some ⟨g2, 0, none⟩) M) => implHoldAll_any _ c L _ c2 M W h1 HSm.out h2 HSM.out (by omega) (by omega))
    rw [← hN] at hL3 HHA ⊢
    have HN := hide hN
    clear hsm hsM hN hd
    go_wp2
    go_loopw [5, 6] (fun al i wr => ∃ (k : Nat), k ≤ n ∧ i = .int .i64 k ∧ al = .bool ((L.take k).all (C11.holds M)) ∧ Below w1.heap.size w1 wr) (fun _ i _ => n - (intOf i).toNat)
    case atStart => exact ⟨0, Nat.zero_le _, rfl, rfl, Below.refl _ _⟩
    case round =>
      obtain ⟨k, hk, rfl, rfl, hbel⟩ := hrel
      by_cases hlt : k < n
      · obtain ⟨b, off, hab, hbw, hc⟩ := RdCond.cells rL (by rw [← HN.out]; omega)
        obtain ⟨d0, d1, d2, d3, d4, d5, d6, d7, d8, d9, d10⟩ := hc k (by rw [← HN.out]; exact hlt)
        have HSt := hide (all_step (M := M) (L := L) (k := k) (by rw [← HN.out]; exact hlt))
        have hS : (eAt L k).small := by rw [eAt_in (by rw [← HN.out]; exact hlt)]; exact HSm.out _ (List.getElem_mem _)
        have HSk := hide hS
        have HLt : Hid (k + 1 ≤ n) := hlt
        have hl1 : (k : Int) < (n : Int) := by omega
        have hl2 : (0 : Int) ≤ (k : Int) := by omega
        clear hc hS
        obtain ⟨rfl, rfl⟩ : g = b ∧ 0 = off := by simpa using hab
        clear hab
        rw [← hbel.cell (p := ⟨g, 0 + k * 11, none⟩) hbw] at d0
        rw [← hbel.cell (p := ⟨g, 0 + k * 11 + 1, none⟩) hbw] at d1
        rw [← hbel.cell (p := ⟨g, 0 + k * 11 + 2, none⟩) hbw] at d2
        rw [← hbel.cell (p := ⟨g, 0 + k * 11 + 3, none⟩) hbw] at d3
        rw [← hbel.cell (p := ⟨g, 0 + k * 11 + 4, none⟩) hbw] at d4
        rw [← hbel.cell (p := ⟨g, 0 + k * 11 + 5, none⟩) hbw] at d5
        rw [← hbel.cell (p := ⟨g, 0 + k * 11 + 6, none⟩) hbw] at d6
        rw [← hbel.cell (p := ⟨g, 0 + k * 11 + 7, none⟩) hbw] at d7
        rw [← hbel.cell (p := ⟨g, 0 + k * 11 + 8, none⟩) hbw] at d8
        rw [← hbel.cell (p := ⟨g, 0 + k * 11 + 9, none⟩) hbw] at d9
        rw [← hbel.cell (p := ⟨g, 0 + k * 11 + 10, none⟩) hbw] at d10
        simp only [Nat.zero_add] at d0 d1 d2 d3 d4 d5 d6 d7 d8 d9 d10
        generalize (L.take k).all (C11.holds M) = al at HSt
        cases al
        · have HSf : Hid ((L.take (k + 1)).all (C11.holds M) = false) := by unfold Hid; rw [HSt.out]; rfl
          go_wp2
          go_roundw
          case rel => exact ⟨k + 1, HLt.out, by go_num, by rw [HSf.out], hbel⟩
          case measure => have := HLt.out; simp [intOf]; omega
        · have r4 := rM.below hbel
          go_wp2_with fail
          refine (HI.out (eAt L k).Op (eAt L k).L (eAt L k).R _ HSk.out.1 HSk.out.2 r4).mono ?_
          rintro e w2 ⟨rfl, hb2⟩
          have hB2 : Below w1.heap.size w1 w2 := hbel.trans (hb2.mono hbel.size)
          clear hb2 hbel r4 d0 d1 d2 d3 d4 d5 d6 d7 d8 d9 d10
          obtain ⟨y, hy⟩ : ∃ y, y = holdsO (eAt L k).Op (argV (eAt L k).L.K (eAt L k).L.S (eAt L k).L.V M) (argV (eAt L k).R.K (eAt L k).R.S (eAt L k).R.V M) := ⟨_, rfl⟩
          rw [← hy]
          have HSf : Hid ((L.take (k + 1)).all (C11.holds M) = y) := by unfold Hid; rw [HSt.out, hy]; rfl
          clear hy
          go_wp2
          go_roundw
          case rel => exact ⟨k + 1, HLt.out, by go_num, by rw [HSf.out], hB2⟩
          case measure => have := HLt.out; simp [intOf]; omega
      · have hkn : k = L.length := by rw [← HN.out]; omega
        have HAl : Hid ((L.take k).all (C11.holds M) = L.all (C11.holds M)) := by unfold Hid; rw [hkn, List.take_length]
        rw [HAl.out]
        clear HAl hkn
        generalize L.all (C11.holds M) = al at HHA
        have Blr : Below w'.heap.size w' wr := B1.trans (hbel.mono B1.size)
        go_wp2_with fail
        refine (drawCondText_any a cap code wr (hr.below Blr) (by omega)).mono ?_
        rintro e w2 ⟨x, rfl, hx, hb2⟩
        have hfl : x.L.fits := ⟨Nat.le_trans hx.1.1 (by unfold maxLen; omega), Nat.le_trans hx.1.2 (by unfold maxLen; omega)⟩
        have hfr : x.R.fits := ⟨Nat.le_trans hx.2.1 (by unfold maxLen; omega), Nat.le_trans hx.2.2 (by unfold maxLen; omega)⟩
        have b12 : Below w1.heap.size w1 w2 := hbel.trans (hb2.mono hbel.size)
        have r3 := (rL.below b12).below (below_al w2 (.cells #[.int .i64 x.Op, .int .i64 x.L.K, .string x.L.S, .int .i64 x.L.V.K, .int .i64 x.L.V.N, .string x.L.V.S, .int .i64 x.R.K, .string x.R.S, .int .i64 x.R.V.K, .int .i64 x.R.V.N, .string x.R.V.S] 34))
        have s3 := (rM.below b12).below (below_al w2 (.cells #[.int .i64 x.Op, .int .i64 x.L.K, .string x.L.S, .int .i64 x.L.V.K, .int .i64 x.L.V.N, .string x.L.V.S, .int .i64 x.R.K, .string x.R.S, .int .i64 x.R.V.K, .int .i64 x.R.V.N, .string x.R.V.S] 34))
        have Bl2 : Below w'.heap.size w' w2 := Blr.trans (hb2.mono Blr.size)
        have Bl3 := Bl2.alloc Bl2.size (.cells #[.int .i64 x.Op, .int .i64 x.L.K, .string x.L.S, .int .i64 x.L.V.K, .int .i64 x.L.V.N, .string x.L.V.S, .int .i64 x.R.K, .string x.R.S, .int .i64 x.R.V.K, .int .i64 x.R.V.N, .string x.R.V.S] 34)
        have HX3 := hide (boxk_new w2 #[.int .i64 x.Op, .int .i64 x.L.K, .string x.L.S, .int .i64 x.L.V.K, .int .i64 x.L.V.N, .string x.L.V.S, .int .i64 x.R.K, .string x.R.S, .int .i64 x.R.V.K, .int .i64 x.R.V.N, .string x.R.V.S] 34)
        have hE0 := text_none x.Op x.L x.R
        have HCT := hide (fun (W : World) (h : Tab W) => implCondText_any x.Op x.L x.R W hfl hfr h)
        have HCO := hide (fun (W : World) => specCondOk_any x.Op x.L x.R W hfl hfr)
        obtain ⟨tx, htx⟩ : ∃ t, t = condT x.Op x.L x.R := ⟨_, rfl⟩
        obtain ⟨kk, hkk⟩ : ∃ t, t = condB x.Op x.L x.R := ⟨_, rfl⟩
        rw [← htx, ← hkk] at hE0
        rw [← htx] at HCT
        rw [← hkk] at HCO
        clear htx hkk hb2 b12 Bl2 Blr hbel rL rM B1 hfl hfr hx HI HSm HSM
        have k1 : (al == al) = true := by simp
        have k2 : ((!kk) == (!kk)) = true := by simp
        go_wp2_with fail
        generalize w2.alloc (.cells #[.int .i64 x.Op, .int .i64 x.L.K, .string x.L.S, .int .i64 x.L.V.K, .int .i64 x.L.V.N, .string x.L.V.S, .int .i64 x.R.K, .string x.R.S, .int .i64 x.R.V.K, .int .i64 x.R.V.N, .string x.R.V.S] 34) = w3 at r3 s3 Bl3 HX3
        have R0 := hide (show RdCond w3.drew (some ⟨g, 0, none⟩) L from r3.below ((Below.refl _ _).drew))
        have S0 := hide (show RdBind w3.drew (some ⟨g2, 0, none⟩) M from s3.below ((Below.refl _ _).drew))
        have X0 := hide (show w3.drew.heap[w2.heap.size]? = _ from HX3.out)
        have BB := hide (show Below w'.heap.size w' w3.drew from Bl3.drew)
        have T0 := hide (show Tab w3.drew from HTab.out.later Bl3.drew (Nat.le_refl _))
        clear r3 s3 HX3 Bl3 HTab
        go_region_held3 (fun W => W.cell? ⟨w2.heap.size, 0, none⟩ = some (.int .i64 x.Op) ∧ W.cell? ⟨w2.heap.size, 1, none⟩ = some (.int .i64 x.L.K) ∧ W.cell? ⟨w2.heap.size, 2, none⟩ = some (.string x.L.S) ∧ W.cell? ⟨w2.heap.size, 3, none⟩ = some (.int .i64 x.L.V.K) ∧ W.cell? ⟨w2.heap.size, 4, none⟩ = some (.int .i64 x.L.V.N) ∧ W.cell? ⟨w2.heap.size, 5, none⟩ = some (.string x.L.V.S) ∧ W.cell? ⟨w2.heap.size, 6, none⟩ = some (.int .i64 x.R.K) ∧ W.cell? ⟨w2.heap.size, 7, none⟩ = some (.string x.R.S) ∧ W.cell? ⟨w2.heap.size, 8, none⟩ = some (.int .i64 x.R.V.K) ∧ W.cell? ⟨w2.heap.size, 9, none⟩ = some (.int .i64 x.R.V.N) ∧ W.cell? ⟨w2.heap.size, 10, none⟩ = some (.string x.R.V.S)) (first | exact cells11 X0.out | exact cells11 (box_step X0.out b1) | exact cells11 (box_step (box_step X0.out b1) b2) | exact cells11 (box_step (box_step (box_step X0.out b1) b2) b3))
          (first | (go_at_call 8; refine (HHA.out _ ?_ ?_).mono ?_; (with_reducible exact R0.out); (with_reducible exact S0.out); rintro e u1 ⟨rfl, b1⟩) | (go_at_call 9; refine (HCT.out _ ?_).mono ?_; (with_reducible exact T0.out.later b1 (Nat.le_refl _)); rintro e u2 ⟨rfl, b2⟩) | (go_at_call 10; refine (HCO.out _).mono ?_; rintro e u3 ⟨rfl, b3⟩))
        all_goals
          have B1 := BB.out.trans (b1.mono BB.out.size)
          have B2 := B1.trans (b2.mono B1.size)
          have B3 := B2.trans (b3.mono B2.size)
          clear b1 b2 b3 B1 B2
          go_wp2
          go_ret
          exact ⟨rfl, B3⟩

theorem walk (a0 : Option Addr) (len0 cap0 : Nat) (z0 : List Int) (w : World) (w0 : IsRow .u8 w a0 len0 cap0 z0) (ht : Tab w) :
    Calls Tryd.prog 3 #[.slice a0 len0 cap0] w fun e w' => e = .returned (.bool true) ∧ Below w.heap.size w w' := by
  obtain ⟨bs, hl, hr⟩ := rd_row w0
  have hm : len0 ≤ maxLen := isRow_len w0
  subst hl
  exact law a0 cap0 bs w hr hm ht

theorem own : ownKnob Tryd.prog.godebug = none := by kernel_rfl
theorem laidOut : laidOutB Tryd.prog = true := by kernel_rfl

theorem door_met (os : Os) (args : Array Value) : laidMetH Tryd.prog Rows.fnAllRow.laid ((World.doorLaid Tryd.prog 400 os).forCall (fun _ _ => 0) ⟨#[], args, []⟩).memory :=
  laidMetH_of_parts3 (fuel := 8) (laidMet_of_run' 8 (by kernel_rfl) (by kernel_rfl)) (by kernel_rfl) (by kernel_rfl)
theorem laid_plain {W : World} (h : laidMetH Tryd.prog Rows.fnAllRow.laid W) : laidMet Tryd.prog Rows.fnAllRow.laid W := by
  rw [MakeChecks.laidMetH_plain _ _ _ (by kernel_rfl)] at h
  exact h

set_option maxRecDepth 100000 in
theorem lifted (os : Os) (started : os.Started) (H : Type) (enc : TypeId × Value → H) :
    ReturnsInHanded {} Tryd.checked os 3 .any (fun w args => (Rows.fnAllSpec.pre enc Tryd.prog Tryd.f3 [] false w args ∧ laidMetH Tryd.prog Rows.fnAllRow.laid w) ∧ sizedMet enc Tryd.prog Tryd.f3 (OpenSpec.ofChange Rows.fnAllSpec) false w args)
      (Rows.fnAllSpec.post enc Tryd.prog Tryd.f3 false true false false) := by
  refine returnsInHanded_of_change_and (C := Tryd.checked) (X := fun w _ => laidMetH Tryd.prog Rows.fnAllRow.laid w) (fun _ _ _ hh h => h.of_heap hh) own started (by kernel_rfl) Tryd.func3
    (ChangeSpec.witness_shaped (enc := enc) (C := Tryd.checked) (os := os) (X := fun w _ => laidMetH Tryd.prog Rows.fnAllRow.laid w) false (World.doorLaid Tryd.prog 400 os) #[.slice none 0 0] 8 rfl (World.shaped_of_RefB (by kernel_rfl) (by kernel_rfl)) (by kernel_rfl) (by kernel_rfl) (by kernel_rfl) (door_met os _)) ?_
  intro W base args ds gs before hval0 hW _ _ hL _
  have hval : ∀ (j : Nat) t v, Tryd.f3.params[j]? = some t → args[j]? = some v → Value.okWide Tryd.prog W .any base t v := hval0
  have hW' := hW
  obtain ⟨p, q, hA0, hV, rfl, hfz, hnd⟩ := hW
  have hA : DataW.TrodAll enc Tryd.prog W 0 (fun _ => true) true Tryd.f3.params.toList args.toList ds p := hA0
  rw [Tryd.params3] at hA hval
  obtain ⟨v0, vs0, d0, ds0, p0, q0, hargs, rfl, rfl, h0, r0⟩ := trodAll_cons hA
  obtain ⟨rfl, rfl, rfl⟩ := trodAll_nil r0
  obtain rfl : args = #[v0] := by cases args; simp_all
  obtain ⟨rfl, rfl⟩ := trodVars_none hV
  obtain ⟨a0, len0, cap0, rfl⟩ := okWide_slice Tryd.underlying22 (hval 0 22 v0 rfl rfl)
  have k0 := h0
  have lt0 : ∀ x ∈ p0, x.block < W.heap.size := by obtain ⟨m, hm⟩ := k0; exact DataW.trod_lt m _ _ _ hm
  obtain ⟨z0, w0⟩ : ∃ zs, IsRow .u8 W a0 len0 cap0 zs := by
    obtain ⟨fuel, hf⟩ := h0
    rcases open_ints Tryd.underlying22 Tryd.underlying5 (by kernel_rfl) hf with ⟨hcs, _⟩ | ⟨x, l, c, zs, hcs, _, hl, hm, hz, _, hcell, hwz⟩
    · simp [Value.cells] at hcs
      obtain ⟨rfl, rfl, rfl⟩ := hcs
      exact ⟨[], .inl ⟨rfl, rfl, rfl, rfl⟩⟩
    · simp [Value.cells] at hcs
      obtain ⟨rfl, rfl, rfl⟩ := hcs
      exact ⟨zs, .inr ⟨_, rfl, hl, hm, by simpa using hz, hcell, hwz⟩⟩
  clear hA0 hval0
  refine (walk a0 len0 cap0 z0 W w0 (tab_of (laid_plain hL))).mono fun e W' ⟨he, bel⟩ => ?_
  subst he
  exact ⟨_, rfl, _, _, _, [], _, [], hW', trodAll_mk1 (shut_bool Tryd.underlying4 _), (trodAll_cons_mk (Below.trod laidOut (by kernel_rfl) (of_decide_eq_true (by kernel_rfl)) k0 bel lt0) trodAll_mk0), rfl, bel.frame _, fun h => by cases h⟩

set_option maxRecDepth 100000 in
theorem over : Rows.fnAllRow.holds Tryd.pinned (OpenSpec.ofChange Rows.fnAllSpec) :=
  OpenClaim.holds_of_wide 3 Tryd.f3 rfl rfl rfl rfl rfl rfl rfl ⟨rfl, rfl, rfl, rfl, rfl⟩ rfl rfl rfl rfl rfl (by kernel_rfl) Tryd.func3 (by kernel_rfl)
    (of_decide_eq_true (by kernel_rfl)) (by unfold Func.isWrapper; first | (rw [if_pos (by decide +kernel)]; kernel_rfl) | (rw [if_neg (by decide +kernel)]; exact ⟨rfl, rfl⟩))
    (fun os started H enc _ => lifted os started H enc)

set_option maxRecDepth 100000 in
theorem card_over : Rows.FnAllCardSaid :=
  Claim7.holds_tied_plain_at .later [] [.data, .data, .data] true Rows.fnAllCard.stood.harness true
    over (fun _ h => by cases h) (by kernel_rfl) (fun _ h => by cases h) fnAll_row_tie rfl ⟨rfl, rfl⟩ (by kernel_rfl) rfl
    (fun f fn hf hfn => by
      obtain rfl : f = 3 := Option.some.inj ((show Tryd.prog.funcNamed "loop.example/g00282/laws.FnAll" = some 3 by kernel_rfl).symm.trans hf) |>.symm
      obtain rfl : fn = Tryd.f3 := (Option.some.inj (Tryd.func3.symm.trans hfn)).symm
      exact ⟨by kernel_rfl, fun j t ht => by
        rw [Tryd.params3] at ht
        have hm : t ∈ [22] := by simpa using Array.mem_of_getElem? ht
        have hall : ([22].all fun u => !Tryd.prog.wantsStandIn u) = true := by kernel_rfl
        exact (show Tryd.prog.wantsStandIn t = false by simpa using List.all_eq_true.1 hall t hm)⟩)
    (by kernel_rfl)
end Go.Proofs.YtlaoiagpoomldaaDoor.CardAll
namespace Go.Proofs.YtlaoiagpoomldaaDoor
theorem fnAllCard_holds : Rows.FnAllCardSaid := CardAll.card_over
#print axioms fnAllCard_holds
end Go.Proofs.YtlaoiagpoomldaaDoor
