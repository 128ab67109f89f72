/-
  Texts of this claim joined into one: ParseFP, HeldF, ToFact, CardBase, HandShape.
-/
import Derived.Test.YtfgigcdfmkfkjacDoorJoined2
import Derived.Test.YtfgigcdfmkfkjacDoorJoined1
import Derived.Deep.RegionHeld3
import Derived.Test.YtfgigcdfmkfkjacDoorRows
import Derived.Test.YtfgigcdfmkfkjacDoorCards
import Derived.Test.YtfgigcdfmkfkjacDoorTie
import Derived.ProofKit
import Derived.LaidMore
import Derived.Stop.Joined
import Derived.Stop.LaidErr
import Derived.Lib.LaidTab
import Derived.SevenTiedAt
import Derived.Lib.SmallJoins
import Derived.Handed
import Derived.HandedShaped
import Derived.LaidLaws
import Derived.Shelf.Vars
/-
  The tested program's ParseFact: what it answers is parseFI.
-/
namespace Go.Proofs.YtfgigcdfmkfkjacDoor
open Go.RowKit
set_option linter.unusedVariables false

theorem parseO_small {p : ByteArray} {v : V3} (h : parseO p = some v) : v.S.size ≤ p.size := by
  unfold parseO at h
  split at h
  · split at h
    · cases h
      show (ByteArray.extract _ _ _).size ≤ _
      rw [ByteArray.size_extract]; omega
    · cases h
  · revert h
    cases numV p.data.toList with
    | none => intro h; cases h
    | some n => intro h; cases h; exact Nat.zero_le _
theorem valK_small {ws : List ByteArray} {B : Nat} (hB : ∀ p ∈ ws, p.size ≤ B) : ∀ {k : Nat} {M : List V3}, k ≤ ws.length → valK ws k = some M → ∀ v ∈ M, v.S.size ≤ B
  | 0, M, _, h => by cases h; simp
  | k + 1, M, hk, h => by
    rw [valK] at h
    cases h1 : valK ws k with
    | none => rw [h1] at h; cases h
    | some N =>
      rw [h1] at h
      simp only at h
      cases h2 : parseO (sAt ws k) with
      | none => rw [h2] at h; cases h
      | some v =>
        rw [h2] at h
        cases h
        intro u hu
        rcases List.mem_append.1 hu with hu | hu
        · exact valK_small hB (by omega) h1 u hu
        · rw [List.mem_singleton] at hu
          rw [hu]
          have := parseO_small h2
          rw [sAt_in (by omega)] at this
          exact Nat.le_trans this (hB _ (List.getElem_mem _))
theorem withinI_small {s : ByteArray} {M : List V3} (h : withinI s = some M) : ∀ v ∈ M, v.S.size ≤ s.size := by
  unfold withinI at h
  split at h
  · cases h; simp
  · exact valK_small (splitB_small _ _ s) (Nat.le_refl _) h
theorem cut_small (l : List UInt8) : (Lib.cut l [40]).1.length ≤ l.length ∧ (Lib.cut l [40]).2.1.length ≤ l.length := by
  rcases first_at 40 l with h1 | ⟨a, r, h1, h2⟩
  · rw [cut_no h1]; simp
  · rw [h1, cut_at h2]; simp; omega
theorem trim_small (l : List UInt8) : (Lib.trimSuffix l [41]).length ≤ l.length := by
  unfold Lib.trimSuffix
  split
  · simp
  · exact Nat.le_refl _
/-- what ParseFact answers -/
def ParsesF (s : ByteArray) (base : Nat) (e : Ending) (w : World) : Prop := ∃ (kd : ByteArray) (v : Value) (b : Bool) (L : List V3),
  e = .returned (.tuple #[.agg #[.string kd, v], .bool b]) ∧ w.ownsRow base 33 3 v L.length (cells3 L) ∧ parseFI s = (if b then some (kd, L) else none) ∧ (b = false → kd = ⟨#[]⟩ ∧ v = .slice none 0 0)

set_option maxRecDepth 100000 in
set_option maxHeartbeats 3200000 in
theorem parseFact_any (s : ByteArray) (m : Int) (w : World) (hs : s.size ≤ 1048576) (ht : Tab w) (he : Errs w) (hm : w.cell? ⟨0, 0, none⟩ = some (.int .i64 m)) :
    Calls Tryd.prog 5 #[.string s] w fun e w' => ParsesF s w.heap.size e w' ∧ Below w.heap.size w w' := by
  obtain ⟨kd, rest, okO, hcut⟩ : ∃ kd rest okO, Lib.cut s.data.toList [40] = (kd, rest, okO) := ⟨_, _, _, rfl⟩
  have hl : s.data.toList.length = s.size := by rw [Array.length_toList]; rfl
  have hsm := cut_small s.data.toList
  rw [hcut, hl] at hsm
  simp only at hsm
  have HI : Hid (parseFI s = if okO && Lib.hasSuffix rest [41] then (match withinI ⟨(Lib.trimSuffix rest [41]).toArray⟩ with
    | some M => if factB ⟨kd.toArray⟩ M then some (⟨kd.toArray⟩, M) else none
    | none => none) else none) := by unfold Hid parseFI; rw [hcut]; rfl
  have HNo : Hid (parseFI s = none → ∀ W : World, ParsesF s w.heap.size (.returned (.tuple #[.agg #[.string ⟨#[]⟩, .slice none 0 0], .bool false])) W) := fun h W => ⟨_, _, _, [], rfl, World.ownsRow_nil _ _ _ _, h, fun _ => ⟨rfl, rfl⟩⟩
  have hC := Tryd.strings_Cut s ⟨#[40]⟩ m (w.alloc (.cells #[.string ⟨#[]⟩, .slice none 0 0] 24)) (by omega) (by rw [(below_al w _).cell (World.block_lt_of_cell? w _ hm)]; exact hm)
  rw [show (ByteArray.mk #[40]).data.toList = [40] from rfl, hcut] at hC
  have hS := fun W => Tryd.strings_CutSuffix ⟨rest.toArray⟩ ⟨#[41]⟩ W (by show rest.toArray.size ≤ _; rw [List.size_toArray]; omega)
  rw [show (ByteArray.mk #[41]).data.toList = [41] from rfl, show (ByteArray.mk rest.toArray).data.toList = rest by simp] at hS
  have htr := trim_small rest
  obtain ⟨okC, hok⟩ : ∃ okC, Lib.hasSuffix rest [41] = okC := ⟨_, rfl⟩
  obtain ⟨inn, hinn⟩ : ∃ inn, (⟨(Lib.trimSuffix rest [41]).toArray⟩ : ByteArray) = inn := ⟨_, rfl⟩
  have hin : inn.size ≤ s.size := by
    rw [← hinn]
    show (Lib.trimSuffix rest [41]).toArray.size ≤ _
    rw [List.size_toArray]; omega
  obtain ⟨kb, hkb⟩ : ∃ kb, (⟨kd.toArray⟩ : ByteArray) = kb := ⟨_, rfl⟩
  have hkd : kb.size ≤ maxLen := by
    rw [← hkb]
    show kd.toArray.size ≤ _
    rw [List.size_toArray]; unfold maxLen; omega
  rw [hok, hinn, hkb] at HI
  rw [hok, hinn] at hS
  rw [hkb] at hC
  have HC := hide hC
  have HS := hide hS
  clear hC hS htr hok hinn hkb hsm hcut hl
  have b0 := below_al w (.cells #[.string ⟨#[]⟩, .slice none 0 0] 24)
  have hR0 := box2_new w (.string ⟨#[]⟩) (.slice none 0 0) 24
  have ht0 : Hid (∀ n, Tab ((w.alloc (.cells #[.string ⟨#[]⟩, .slice none 0 0] 24)).drewN n) ∧ Errs ((w.alloc (.cells #[.string ⟨#[]⟩, .slice none 0 0] 24)).drewN n) ∧ ((w.alloc (.cells #[.string ⟨#[]⟩, .slice none 0 0] 24)).drewN n).cell? ⟨0, 0, none⟩ = some (.int .i64 m)) := fun n =>
    ⟨ht.later (below_boxN w _ n) (Nat.le_refl _), he.later (below_boxN w _ n) (Nat.le_refl _), by rw [(below_boxN w _ n).cell (World.block_lt_of_cell? w _ hm)]; exact hm⟩
  go_enter Tryd.func5, Tryd.ntmps5
  go_wp2_with fail
  refine HC.out.mono ?_
  rintro e w1 ⟨rfl, n1, rfl⟩
  have ht1 := hide (ht0.out n1)
  have b1 := below_boxN w (.cells #[.string ⟨#[]⟩, .slice none 0 0] 24) n1
  have hR1 : ((w.alloc (.cells #[.string ⟨#[]⟩, .slice none 0 0] 24)).drewN n1).heap[w.heap.size]? = some (.cells #[.string ⟨#[]⟩, .slice none 0 0] 24 (0, 0)) := hR0
  clear ht0 HC hR0 b0
  generalize (w.alloc (.cells #[.string ⟨#[]⟩, .slice none 0 0] 24)).drewN n1 = w0 at b1 hR1 ht1 ⊢
  go_wp2_with fail
  refine (HS.out _).mono ?_
  rintro e w1 ⟨rfl, rfl⟩
  go_wp2_with fail
  refine (parseFields_any inn m _ (by omega) ht1.out.1 ht1.out.2.1 ht1.out.2.2).mono ?_
  rintro e w2 ⟨⟨v, b, L, rfl, ho2, hl2, hf2⟩, hb2⟩
  have b2 : Below w.heap.size w w2 := b1.trans (hb2.mono b1.size)
  have hz1 := (Array.getElem?_eq_some_iff.1 hR1).1
  have hR2 := box_step hR1 hb2
  have hz2 : w.heap.size < w2.heap.size := (Array.getElem?_eq_some_iff.1 hR2).1
  obtain ⟨g, c, e0, hrd, -, -, -⟩ := rdV_owns ho2
  subst e0
  have HF2 := hide hf2
  obtain ⟨s0, s1, s2, s3⟩ := box2_cell hR2
  have hne : w.heap.size ≠ w2.heap.size := by omega
  clear hb2 hR1 b1 ht1 hf2 HS
  have ba := below_al w2 (.cells #[.string kb, .slice g L.length c] 24)
  have HR2 := hide (box_step hR2 ba)
  have HX2 := hide (box2_new w2 (.string kb) (.slice g L.length c) 24)
  have HB2 := hide (b2.trans (ba.mono b2.size))
  have HO2 := hide (ownsRow_below ho2 ba)
  have HRd := hide (hrd.below ba)
  obtain ⟨r0, r1, f0, f1⟩ := box2_cell HR2.out
  obtain ⟨x0, x1, -, -⟩ := box2_cell HX2.out
  have HRw := hide hR2
  have Hb2 := hide b2
  clear hR2 ba b2 ho2 hrd
  cases okO
  · have HN : Hid (parseFI s = none) := by unfold Hid; rw [HI.out]; simp
    go_wp2
    have h9 := box2_set HRw.out (.string ⟨#[]⟩) (.slice none 0 0)
    clear r0 r1 f0 f1 x0 x1 s0 s1 s2 s3
    generalize (w2.setCell ⟨w.heap.size, 0, none⟩ (.string ⟨#[]⟩)).setCell ⟨w.heap.size, 1, none⟩ (.slice none 0 0) = w4 at h9 ⊢
    obtain ⟨c0, c1, -, -⟩ := box2_cell (box_old h9.1 (Array.getElem?_eq_some_iff.1 h9.1).1 (.cells #[.string kb, .slice g L.length c] 24))
    have b9 := below_set Hb2.out h9.2 (Nat.le_refl _)
    exact bodyPost_ret (v := .tuple #[.agg #[.string ⟨#[]⟩, .slice none 0 0], .bool false]) (by simp [results, Tryd.results5, go_sem, c0, c1]) rfl ⟨HNo.out HN.out _, b9.alloc b9.size _⟩
  cases okC
  · have HN : Hid (parseFI s = none) := by unfold Hid; rw [HI.out]; simp
    go_wp2
    have h9 := box2_set HRw.out (.string ⟨#[]⟩) (.slice none 0 0)
    clear r0 r1 f0 f1 x0 x1 s0 s1 s2 s3
    generalize (w2.setCell ⟨w.heap.size, 0, none⟩ (.string ⟨#[]⟩)).setCell ⟨w.heap.size, 1, none⟩ (.slice none 0 0) = w4 at h9 ⊢
    obtain ⟨c0, c1, -, -⟩ := box2_cell (box_old h9.1 (Array.getElem?_eq_some_iff.1 h9.1).1 (.cells #[.string kb, .slice g L.length c] 24))
    have b9 := below_set Hb2.out h9.2 (Nat.le_refl _)
    exact bodyPost_ret (v := .tuple #[.agg #[.string ⟨#[]⟩, .slice none 0 0], .bool false]) (by simp [results, Tryd.results5, go_sem, c0, c1]) rfl ⟨HNo.out HN.out _, b9.alloc b9.size _⟩
  cases b
  · have HN : Hid (parseFI s = none) := by unfold Hid; rw [HI.out, HF2.out]; simp
    go_wp2
    have h9 := box2_set HRw.out (.string ⟨#[]⟩) (.slice none 0 0)
    clear r0 r1 f0 f1 x0 x1 s0 s1 s2 s3
    generalize (w2.setCell ⟨w.heap.size, 0, none⟩ (.string ⟨#[]⟩)).setCell ⟨w.heap.size, 1, none⟩ (.slice none 0 0) = w4 at h9 ⊢
    obtain ⟨c0, c1, -, -⟩ := box2_cell (box_old h9.1 (Array.getElem?_eq_some_iff.1 h9.1).1 (.cells #[.string kb, .slice g L.length c] 24))
    have b9 := below_set Hb2.out h9.2 (Nat.le_refl _)
    exact bodyPost_ret (v := .tuple #[.agg #[.string ⟨#[]⟩, .slice none 0 0], .bool false]) (by simp [results, Tryd.results5, go_sem, c0, c1]) rfl ⟨HNo.out HN.out _, b9.alloc b9.size _⟩
  have HF3 : Hid (withinI inn = some L) := HF2.out
  have hs2' : ∀ u ∈ L, u.S.size ≤ maxLen := fun u hu => by have := withinI_small HF3.out u hu; unfold maxLen; omega
  go_wp2_with fail
  generalize w2.alloc (.cells #[.string kb, .slice g L.length c] 24) = w3 at r0 r1 f0 f1 x0 x1 HR2 HX2 HB2 HO2 HRd ⊢
  refine (implFactOk_any kb g c L _ hkd HRd.out hs2' (by omega)).mono ?_
  rintro e w5 ⟨rfl, hb5⟩
  have HR5 := hide (box_step HR2.out hb5)
  have HX5 := hide (box_step HX2.out hb5)
  have HB5 := hide (HB2.out.trans (hb5.mono HB2.out.size))
  have HO5 := hide (ownsRow_below HO2.out hb5)
  clear hb5 r0 r1 f0 f1 x0 x1 s0 s1 s2 s3 HR2 HX2 HB2 HO2 HRd
  obtain ⟨r0, r1, f0, f1⟩ := box2_cell HR5.out
  obtain ⟨x0, x1, -, -⟩ := box2_cell HX5.out
  cases hfb : factB kb L
  · have HN : Hid (parseFI s = none) := by unfold Hid; rw [HI.out, HF3.out]; simp [hfb]
    clear hfb
    go_wp2
    refine box2_post HR5.out (fun w4 h4 gr => ?_)
    clear r0 r1 f0 f1 x0 x1
    obtain ⟨c0, c1, -, -⟩ := box2_cell h4
    exact bodyPost_ret (v := .tuple #[.agg #[.string ⟨#[]⟩, .slice none 0 0], .bool false]) (by simp [results, Tryd.results5, go_sem, c0, c1]) rfl ⟨HNo.out HN.out _, below_set HB5.out gr (by omega)⟩
  · have HY : Hid (parseFI s = some (kb, L)) := by unfold Hid; rw [HI.out, HF3.out]; simp [hfb]
    clear hfb
    go_wp2
    refine box2_post HR5.out (fun w4 h4 gr => ?_)
    clear r0 r1 f0 f1 x0 x1
    obtain ⟨c0, c1, -, -⟩ := box2_cell h4
    exact bodyPost_ret (v := .tuple #[.agg #[.string kb, .slice g L.length c], .bool true]) (by simp [results, Tryd.results5, go_sem, c0, c1]) rfl ⟨⟨kb, _, true, L, rfl, ownsRow_lower (HO5.out.kept gr (by
      cases hv2 : Value.ownBlock (.slice g L.length c) with
      | none => exact .inl rfl
      | some k => right; intro e; have := (HO5.out.lt k hv2).1; cases e; omega)) (by omega), HY.out, by simp⟩, below_set HB5.out gr (by omega)⟩
end Go.Proofs.YtfgigcdfmkfkjacDoor
/-
  The contracts of the laws' own look at marked facts: heldFact tells that the marks are there; and markFact of a row that may be nil.
-/
namespace Go.Proofs.YtfgigcdfmkfkjacDoor
open Go.RowKit
set_option linter.unusedVariables false

theorem marksV_at {k n i : Nat} (h : i < n) : vAt (marksV k n) i = markV (k + 3 * i) := by
  rw [vAt_in (by rw [marksV_length]; exact h)]; simp [marksV]

theorem kept1 {W w' : World} {p : Addr} {v : Value} (hb : Below W.heap.size W w') (h : W.cell? p = some v) : w'.cell? p = some v := by rw [hb.cell (World.block_lt_of_cell? W _ h)]; exact h

set_option maxRecDepth 100000 in
set_option maxHeartbeats 1600000 in
theorem heldValS_any (a : Option Addr) (cap k0 n : Nat) (w : World) (hr : RdV w a (marksV k0 n)) (hn : n ≤ 1048580) (hk : k0 ≤ 33554500) :
    Calls Tryd.prog 18 #[.slice a n cap, .int .i64 (k0 : Int)] w fun e w' =>
      e = .returned (.int .i64 ((k0 + 3 * n : Nat) : Int)) ∧ Below w.heap.size w w' := by
  go_enter Tryd.func18, Tryd.ntmps18
  go_wp2
  go_loopw [1, 5] (fun kk i wr => ∃ j : Nat, j ≤ n ∧ i = .int .i64 j ∧ (∃ m : Nat, m = k0 + 3 * j ∧ kk = .int .i64 (m : Int)) ∧ Below w.heap.size w wr) (fun _ i _ => n - (intOf i).toNat)
  case atStart => exact ⟨0, Nat.zero_le _, rfl, ⟨k0, rfl, rfl⟩, Below.refl _ _⟩
  case round =>
    obtain ⟨j, hj, rfl, ⟨m, hm, rfl⟩, hbel⟩ := hrel
    have HM := hide hm
    have hm2 : m ≤ 40000000 := by omega
    clear hm
    by_cases hlt : j < n
    · obtain ⟨b, off, hab, hbw, hc⟩ := hr.open (by rw [marksV_length]; omega)
      obtain ⟨c0, c1, c2⟩ := hc j (by rw [marksV_length]; exact hlt)
      clear hc
      subst hab
      rw [← hbel.cell (p := ⟨b, off + j * 3, none⟩) hbw] at c0
      rw [← hbel.cell (p := ⟨b, off + j * 3 + 1, none⟩) hbw] at c1
      rw [← hbel.cell (p := ⟨b, off + j * 3 + 2, none⟩) hbw] at c2
      have e1 : (vAt (marksV k0 n) j).K = (m : Int) := by rw [marksV_at hlt, ← HM.out]; rfl
      have e2 : (vAt (marksV k0 n) j).N = (m : Int) + 1 := by rw [marksV_at hlt, ← HM.out]; show ((m + 1 : Nat) : Int) = _; omega
      have e3 : (vAt (marksV k0 n) j).S = markT (m + 2) := by rw [marksV_at hlt, ← HM.out]; rfl
      rw [e1] at c0
      rw [e2] at c1
      rw [e3] at c2
      clear e1 e2 e3
      have k1 : ((m : Int) != (m : Int)) = false := by simp
      have k2 : ((m : Int) + 1 != (m : Int) + 1) = false := by simp
      have k3 : ((markT (m + 2)).toList == (markT (m + 2)).toList) = true := by simp
      have HB := hide hbel
      go_wp2_with fail
      go_region_held3 (fun W => W.cell? ⟨b, off + j * 3 + 2, none⟩ = some (.string (markT (m + 2)))) (first | exact c2 | exact kept1 (below_dr hb2) c2)
        (first | (go_at_call 30; refine (markText_i ((m : Int) + 1 + 1) (m + 2) _ (by omega) (by omega)).mono ?_; rintro e w2 ⟨rfl, hb2⟩))
      all_goals
        have B2 : Below w.heap.size w w2 := HB.out.drew.trans (hb2.mono HB.out.size)
        go_wp2
        go_roundw
        case rel => exact ⟨j + 1, by omega, by go_num, ⟨m + 3, by rw [HM.out]; omega, by go_num⟩, B2⟩
        case measure => simp [intOf]; omega
    · obtain rfl : j = n := by omega
      go_wp2
      go_ret
      exact ⟨by rw [HM.out]; rfl, hbel⟩

set_option maxRecDepth 100000 in
set_option maxHeartbeats 1600000 in
theorem heldFact_any (kd : ByteArray) (a : Option Addr) (cap k0 n : Nat) (w : World) (hr : RdV w a (marksV k0 n)) (hn : n ≤ 1048580) (hk : k0 ≤ 33554500) :
    Calls Tryd.prog 8 #[.agg #[.string kd, .slice a n cap], .int .i64 (k0 : Int)] w fun e w' =>
      (∃ r : Nat, e = .returned (.int .i64 (r : Int)) ∧ r = k0 + 3 * n) ∧ Below w.heap.size w w' := by
  have b0 := below_al w (.cells #[.string kd, .slice a n cap] 24)
  go_enter Tryd.func8, Tryd.ntmps8
  go_wp2_with fail
  refine (heldValS_any a cap k0 n _ (hr.below b0) hn hk).mono ?_
  rintro e w1 ⟨rfl, hb1⟩
  have B1 : Below w.heap.size w w1 := b0.trans (hb1.mono b0.size)
  obtain ⟨r, hr'⟩ : ∃ r, r = k0 + 3 * n := ⟨_, rfl⟩
  rw [← hr']
  have HR := hide hr'
  have h0 : ¬ ((r : Int) < 0) := by omega
  clear hr'
  go_wp2
  go_ret
  exact ⟨⟨r, rfl, HR.out⟩, B1⟩

set_option maxRecDepth 100000 in
set_option maxHeartbeats 1600000 in
theorem markFact_nil (kd : ByteArray) (k0 : Nat) (w : World) (hk : k0 ≤ 33554500) :
    Calls Tryd.prog 7 #[.agg #[.string kd, .slice none 0 0], .int .i64 (k0 : Int)] w fun e w' =>
      e = .returned (.int .i64 (k0 : Int)) ∧ Below w.heap.size w w' := by
  have HC : Hid (∀ W : World, Calls Tryd.prog 17 #[.slice none 0 0, .int .i64 (k0 : Int)] W fun e w' => e = .returned (.int .i64 (k0 : Int)) ∧ w' = W) := by
    intro W
    go_enter Tryd.func17, Tryd.ntmps17
    go_wp2
    go_rounds 1
    go_ret
    exact ⟨rfl, rfl⟩
  have b0 := below_al w (.cells #[.string kd, .slice none 0 0] 24)
  go_enter Tryd.func7, Tryd.ntmps7
  go_wp2_with fail
  refine (HC.out _).mono ?_
  rintro e w1 ⟨rfl, rfl⟩
  go_wp2
  go_ret
  exact ⟨rfl, b0⟩
/-- a row of values, nil or not, is marked -/
theorem markFact_row (kd : ByteArray) (base : Nat) (v : Value) (L : List V3) (w : World) (ho : w.ownsRow base 33 3 v L.length (cells3 L)) (hn : L.length ≤ 1048580) :
    Calls Tryd.prog 7 #[.agg #[.string kd, v], .int .i64 1] w fun e w' =>
      (∃ r : Nat, e = .returned (.int .i64 (r : Int)) ∧ r = 1 + 3 * L.length) ∧ w'.ownsRow base 33 3 v L.length (cells3 (marksV 1 L.length)) ∧ (∀ q, q < w.heap.size → v.ownBlock ≠ some q → w'.heap[q]? = w.heap[q]?) ∧ (base ≤ w.heap.size → Below base w w') := by
  rcases ho.2 with ⟨rfl, h0⟩ | ⟨g, cap, cur, rfl, hb, rest⟩
  · refine (markFact_nil kd 1 w (by omega)).mono fun e w' h => ⟨⟨1, h.1, by omega⟩, ?_, fun q hq _ => h.2.block q hq, fun hB => h.2.mono hB⟩
    have hL : L = [] := List.eq_nil_of_length_eq_zero h0
    subst hL
    exact World.ownsRow_nil _ _ _ _
  · refine (markFact_any kd g cap 1 L w (OwnV.of ho) hn (by omega)).mono fun e w' h => ⟨h.1, ?_, fun q hq hne => h.2.2.1 q hq (fun e => hne (by rw [e]; rfl)), fun _ => h.2.2.2.mono hb⟩
    have := h.2.1
    refine ⟨by have := this.1; rw [marksV_length] at this; exact this, ?_⟩
    rcases this.2 with ⟨h1, _⟩ | ⟨g', cap', cur', h1, _, rest'⟩
    · simp at h1
    · rw [marksV_length] at h1 rest'
      simp only [Value.slice.injEq, Option.some.injEq, Addr.mk.injEq, and_true, true_and] at h1
      obtain ⟨rfl, rfl⟩ := h1
      exact .inr ⟨g, cap, cur', rfl, hb, rest'⟩
end Go.Proofs.YtfgigcdfmkfkjacDoor
/-
  The contracts of the laws' own helpers on facts: toFact copies, eqFact finds a fact the same as itself.
-/
namespace Go.Proofs.YtfgigcdfmkfkjacDoor
open Go.RowKit
set_option linter.unusedVariables false

set_option maxRecDepth 100000 in
set_option maxHeartbeats 1600000 in
theorem eqFact_same (kd : ByteArray) (a b : Option Addr) (ca cb : Nat) (L : List V3) (w : World) (hr : RdV w a L) (hq : RdV w b L) (hn : L.length ≤ 1048580) :
    Calls Tryd.prog 6 #[.agg #[.string kd, .slice a L.length ca], .agg #[.string kd, .slice b L.length cb]] w fun e w' =>
      e = .returned (.bool true) ∧ Below w.heap.size w w' := by
  have k1 : (kd.toList == kd.toList) = true := by simp
  go_enter Tryd.func6, Tryd.ntmps6
  go_wp2_with fail
  have b0 := below_al w (.cells #[.string kd, .slice a L.length ca] 24)
  have b1 := b0.alloc b0.size (.cells #[.string kd, .slice b L.length cb] 24)
  refine (eqValS_same a b ca cb L _ (hr.below b1) (hq.below b1) hn).mono ?_
  rintro e w1 ⟨rfl, hb⟩
  have hB : Below w.heap.size w w1 := b1.trans (hb.mono b1.size)
  go_wp2
  go_ret
  exact ⟨rfl, hB⟩
end Go.Proofs.YtfgigcdfmkfkjacDoor
/-
  Out of a row's list of the library's variables: the table of powers of ten, and the two errors.
-/
namespace Go.Proofs.YtfgigcdfmkfkjacDoor
open Go.RowKit
set_option linter.unusedVariables false
set_option maxRecDepth 100000

theorem gT : Tryd.prog.globalNamed "internal/strconv.uint64pow10" = some 5 := by kernel_rfl
theorem gTType : (Tryd.prog.globals[5]?).map (·.type) = some 112 := by kernel_rfl
theorem gES : Tryd.prog.globalNamed "strconv.ErrSyntax" = some 3 := by kernel_rfl
theorem gESType : (Tryd.prog.globals[3]?).map (·.type) = some 69 := by kernel_rfl
theorem gER : Tryd.prog.globalNamed "strconv.ErrRange" = some 4 := by kernel_rfl
theorem gERType : (Tryd.prog.globals[4]?).map (·.type) = some 69 := by kernel_rfl
theorem cellsES : Tryd.prog.cellsOf 105 = 1 := by kernel_rfl
theorem cellsStr : Tryd.prog.cellsOf 9 = 1 := by kernel_rfl
theorem star : "*" ++ "errors.errorString" = "*errors.errorString" := by decide
theorem rowES (u : TypeId) (h : Tryd.prog.typeName? 3 u = some "*errors.errorString") : u = 103 :=
  typeName_ptr_named (nm := "errors.errorString") (by rw [star]; kernel_rfl) (by kernel_rfl) (by decide) u (by rw [star]; exact h)

theorem tab_of {r : List (String × DataW Unit)} {a b : String × DataW Unit} {W : World} (h : laidMet Tryd.prog (a :: b :: ("internal/strconv.uint64pow10", Rows.laid_internal_strconv_uint64pow10) :: r) W) : Tab W :=
  Lib.tabIs_of_head (zs := Lib.pow10Tab) (rest := r) gT gTType Tryd.underlying112 Tryd.underlying93 (by kernel_rfl) (by kernel_rfl) h.tail.tail
theorem errs_of {r : List (String × DataW Unit)} {a b c : String × DataW Unit} {W : World} (h : laidMet Tryd.prog (a :: b :: c :: ("strconv.ErrRange", Rows.laid_strconv_ErrRange) :: ("strconv.ErrSyntax", Rows.laid_strconv_ErrSyntax) :: r) W) : Errs W := by
  have h3 := h.tail.tail.tail
  obtain ⟨a0, s0, hv0, -, -, -⟩ := laid_sentinel h3 gER gERType Tryd.underlying69 rowES Tryd.underlying103 Tryd.underlying105 rfl rfl Tryd.underlying9 cellsES cellsStr
  obtain ⟨a1, s1, hv1, -, -, -⟩ := laid_sentinel h3.tail gES gESType Tryd.underlying69 rowES Tryd.underlying103 Tryd.underlying105 rfl rfl Tryd.underlying9 cellsES cellsStr
  exact ⟨⟨_, _, hv1⟩, ⟨_, _, hv0⟩⟩
end Go.Proofs.YtfgigcdfmkfkjacDoor
/-
  A law's row with a list of variables, the world's shape handed to the walk too.
-/
namespace Go.Proofs.YtfgigcdfmkfkjacDoor
open Go
variable {H : Type} {enc : TypeId × Value → H}

/-- what the row lists, and the world's shape, at the walk's hand -/
theorem handed_shaped {C : Checked} {os : Os} {f : FuncId} {fn : Func} {s : ChangeSpec} {conds : List PathCond} {apart fresh handsOn again : Bool} {X : World → Array Value → Prop}
    (hX : ∀ (w w' : World) (args : Array Value), w.heap = w'.heap → X w args → X w' args)
    (own : ownKnob C.prog.godebug = none) (started : os.Started) (noInit : C.prog.inits.idxOf? f = none) (hfn : C.prog.funcs[f]? = some fn)
    (wit : ∃ (w : World) (tape : Tape) (i : Input), w.os = os ∧ (w.forCall tape i).Shaped C.prog ∧ i.vars = [] ∧ Input.okWide C.prog (w.forCall tape i) .any w.heap.size f i ∧
      ((s.pre enc C.prog fn conds apart (w.forCall tape i).memory i.args ∧ X (w.forCall tape i).memory i.args) ∧ sizedMet enc C.prog fn (OpenSpec.ofChange s) apart (w.forCall tape i).memory i.args) ∧ ({} : Assume).holds C.prog (lone (Frame.enter C.prog f i.args .normal) [] (w.forCall tape i)))
    (walk : ∀ (W : World) (base : Nat) (args : Array Value) (ds gs : List (DataW H)) (before : List MemPlace),
      (∀ (j : Nat) t v, fn.params[j]? = some t → args[j]? = some v → Value.okWide C.prog W .any base t v) →
      DataW.Whole enc C.prog fn.params.toList s.vars apart W args.toList ds gs before →
      conds.all (PathCond.test C.prog ⟨fn.params.toList, ds, s.plain.varTypes C.prog, gs⟩) = true →
      (DataW.weightsEach C.prog (fn.params.toList ++ s.plain.varTypes C.prog) (ds ++ gs)).all (· ≤ reachBytes) = true → X W args → W.ShapedOpen C.prog →
      ({} : Assume).holds C.prog (lone (Frame.enter C.prog f args .normal) [] W) →
      Calls C.prog f args W fun e W' => ∃ v, e = .returned v ∧ s.post enc C.prog fn apart fresh handsOn again W args v W') :
    ReturnsInHanded {} C os f .any (fun w args => (s.pre enc C.prog fn conds apart w args ∧ X w args) ∧ sizedMet enc C.prog fn (OpenSpec.ofChange s) apart w args) (s.post enc C.prog fn apart fresh handsOn again) := by
  refine returnsInHanded_of_calls own started noInit wit ?_
  intro w tape i _ hsh _ hok hpre hh
  obtain ⟨_, _, _, fn', hfn', _, _, _, _, hval⟩ := hok
  obtain rfl : fn' = fn := Option.some.inj (hfn'.symm.trans hfn)
  obtain ⟨⟨⟨ds, gs, before, hw, hc⟩, hx⟩, hz⟩ := hpre
  refine (walk (w.forCall tape i) w.heap.size i.args ds gs before hval (DataW.Whole.of_heap (w' := w.forCall tape i) (by rfl) hw) hc (hz.weights hw) (hX _ _ _ (by rfl) hx) hsh hh).mono fun e W' ⟨v, he, hp⟩ => ?_
  subst he
  exact ChangeSpec.post_blind hp
end Go.Proofs.YtfgigcdfmkfkjacDoor
