/-
  What the text of a pattern is: a sign where it is Not, its kind, and the texts of its arguments between brackets; the model's.
-/
import Derived.Test.YtaflokfgbmlmaacDoorJFactT
import Derived.Test.YtaflokfgbmlmaacDoorJArgT
import Derived.Test.YtaflokfgbmlmaacDoorJPatOk
import Derived.Test.YtaflokfgbmlmaacDoorJoined1
namespace Go.Proofs.YtaflokfgbmlmaacDoor
open Go.RowKit
set_option linter.unusedVariables false

/-- the texts with a comma and a blank between -/
def joinA (L : List A5) : List UInt8 := Lib.join (L.map fun v => v.tx.data.toList) [44, 32]
theorem joinA_nil : joinA [] = [] := rfl
theorem joinA_snoc (L : List A5) (v : A5) : joinA (L ++ [v]) = if L = [] then v.tx.data.toList else joinA L ++ (44 :: 32 :: v.tx.data.toList) := by
  unfold joinA Lib.join
  induction L with
  | nil => simp [List.intercalate]
  | cons a r ih =>
    rw [if_neg (by simp)]
    cases r with
    | nil => simp [List.intercalate]
    | cons b s =>
      rw [if_neg (by simp)] at ih
      simp only [List.map_append, List.map_cons, List.map_nil, List.cons_append] at ih ⊢
      have e : ∀ (p q : List UInt8) (t : List (List UInt8)), List.intercalate [44, 32] (p :: q :: t) = p ++ (44 :: 32 :: List.intercalate [44, 32] (q :: t)) := fun p q t => by simp [List.intercalate, List.intersperse]
      rw [e, e, ih]
      simp
theorem joinA_take {L : List A5} (h : ∀ v ∈ L, v.ok = true) : ∀ k, k ≤ L.length → (joinA (L.take k)).length ≤ 24 * k
  | 0, _ => by simp [joinA_nil]
  | k + 1, hk => by
    have ih := joinA_take h k (by omega)
    have h2 := txA_size (h L[k] (List.getElem_mem (by omega)))
    have e : L[k].tx.data.toList.length = L[k].tx.size := by rw [Array.length_toList]; rfl
    rw [List.take_succ_eq_append_getElem (by omega), joinA_snoc]
    split
    · omega
    · simp only [List.length_append, List.length_cons]; omega
theorem joinA_le {L : List A5} (h : ∀ v ∈ L, v.ok = true) : (joinA L).length ≤ 24 * L.length := by
  have := joinA_take h L.length (Nat.le_refl _)
  rwa [List.take_length] at this
def notT (nt : Bool) (t : ByteArray) : ByteArray := if nt then ⟨#[33]⟩ ++ t else t
def patT (kd : ByteArray) (L : List A5) (nt : Bool) : ByteArray := if patB kd L then notT nt (kd ++ ⟨#[40]⟩) ++ ⟨(joinA L).toArray⟩ ++ ⟨#[41]⟩ else ⟨#[]⟩
theorem patT_no {kd : ByteArray} {L : List A5} {nt : Bool} (h : patB kd L = false) : patT kd L nt = ⟨#[]⟩ := by unfold patT; rw [if_neg (by rw [h]; simp)]
theorem patT_yes {kd : ByteArray} {L : List A5} {nt : Bool} (h : patB kd L = true) : patT kd L nt = notT nt (kd ++ ⟨#[40]⟩) ++ ⟨(joinA L).toArray⟩ ++ ⟨#[41]⟩ := by unfold patT; rw [if_pos h]
theorem patB_open {kd : ByteArray} {L : List A5} (h : patB kd L = true) : nameB kd = true ∧ L.length ≤ 5 ∧ ∀ v ∈ L, v.ok = true := by
  unfold patB at h
  simp only [Bool.and_eq_true, decide_eq_true_eq, List.all_eq_true] at h
  exact ⟨h.1.1, h.1.2, h.2⟩
theorem nameP_size {s : ByteArray} (h : nameB s = true) : s.size ≤ 12 := by
  unfold nameB inB at h
  simp only [Bool.and_eq_true, decide_eq_true_eq] at h
  omega

set_option maxRecDepth 100000 in
set_option maxHeartbeats 3200000 in
theorem specPatText_any (kd : ByteArray) (a : Option Addr) (cap : Nat) (L : List A5) (nt : Bool) (w : World) (hkd : kd.size ≤ maxLen) (hr : RdArg w a L) (hs : ∀ x ∈ L, x.fits) (hm : L.length ≤ 1048580) :
    Calls Tryd.prog 21 #[.agg #[.string kd, .slice a L.length cap, .bool nt]] w fun e w' =>
      e = .returned (.string (patT kd L nt)) ∧ Below w.heap.size w w' := by
  have b0 := below_al w (.cells #[.string kd, .slice a L.length cap, .bool nt] 53)
  have hP := boxk_new w #[.string kd, .slice a L.length cap, .bool nt] 53
  go_enter Tryd.func21, Tryd.ntmps21
  go_wp2_with fail
  refine (specPatOk_any kd a cap L nt _ hkd (hr.below b0) hs hm).mono ?_
  rintro e w1 ⟨rfl, hb1⟩
  have HP := hide (box_below hP hb1 (by simp))
  have hB1 : Below w.heap.size w w1 := b0.trans (hb1.mono b0.size)
  have hz1 : w.heap.size < w1.heap.size := Nat.lt_of_lt_of_le (by simp) hb1.size
  clear hb1 b0 hP
  cases hv : patB kd L
  · have HV := hide (patT_no (nt := nt) hv)
    clear hv
    go_wp2
    go_ret
    exact ⟨by rw [HV.out]; rfl, hB1⟩
  · obtain ⟨hn, h5, hok⟩ := patB_open hv
    have HV := hide (patT_yes (nt := nt) hv)
    have HOk := hide hok
    have hkn := nameP_size hn
    clear hv hok hn hm
    obtain ⟨n, hN⟩ : ∃ n, n = L.length := ⟨_, rfl⟩
    obtain ⟨p0, p1, p2, -, -, -⟩ := box_cell HP.out
    rw [← hN] at h5 HP p1 ⊢
    have HN := hide hN
    clear hN
    have c40 : (ByteArray.mk #[40]).size = 1 := rfl
    have c41 : (ByteArray.mk #[41]).size = 1 := rfl
    have c33 : (ByteArray.mk #[33]).size = 1 := rfl
    have c44 : (ByteArray.mk #[44, 32]).size = 2 := rfl
    obtain ⟨pre, hpre⟩ : ∃ pre, pre = notT nt (kd ++ ⟨#[40]⟩) := ⟨_, rfl⟩
    have hps : pre.size ≤ 14 := by
      rw [hpre]; unfold notT
      cases nt
      · simp only [Bool.false_eq_true, if_false, ByteArray.size_append, c40]; omega
      · simp only [if_true, ByteArray.size_append, c40, c33]; omega
    rw [← hpre] at HV
    have HPre := hide hpre
    have hk1 : (kd ++ ⟨#[40]⟩ : ByteArray).size = kd.size + 1 := by rw [ByteArray.size_append, c40]
    have HLoop : Hid (∀ (Q : Exit → Act → World → Prop), True) := fun _ => trivial
    clear hpre HLoop
    cases nt
    all_goals
      rw [show notT _ (kd ++ (⟨#[40]⟩ : ByteArray)) = _ from rfl] at HPre
      go_wp2
      go_loopw [3, 4] (fun s i wr => ∃ (k : Nat) (t : ByteArray), k ≤ n ∧ i = .int .i64 k ∧ s = .string t ∧ t.size ≤ 14 + 24 * k ∧ t = pre ++ ⟨(joinA (L.take k)).toArray⟩ ∧ Below w1.heap.size w1 wr) (fun _ i _ => n - (intOf i).toNat)
      case atStart =>
        refine ⟨0, pre, Nat.zero_le _, rfl, ?_, by omega, by rw [List.take_zero, joinA_nil]; apply ByteArray.ext; apply Array.toList_inj.1; simp, Below.refl _ _⟩
        rw [HPre.out]
        rfl
      case round =>
        clear p0 p1 p2
        obtain ⟨k, t, hk, rfl, rfl, hts, ht, hbel⟩ := hrel
        have HT := hide ht
        clear ht
        have hB : Below w.heap.size w wr := hB1.trans (hbel.mono hB1.size)
        have p1 := boxk_cell (box_below HP.out hbel hz1) 1 _ rfl
        by_cases hlt : k < n
        · obtain ⟨b, off, hab, hbw, hc⟩ := RdArg.cells (hr.below hB) (by rw [← HN.out]; omega)
          obtain ⟨c0, c1, c2, c3, c4⟩ := hc k (by rw [← HN.out]; exact hlt)
          clear hc
          subst hab
          have hv : (eAt L k).ok = true := by rw [eAt_in (by rw [← HN.out]; exact hlt)]; exact HOk.out _ (List.getElem_mem _)
          have hxs := txA_size hv
          have HTake : Hid (L.take (k + 1) = L.take k ++ [eAt L k]) := by unfold Hid; rw [List.take_succ_eq_append_getElem (by rw [← HN.out]; exact hlt), eAt_in]
          have HVx := hide (fun W => l6ArgText_any (eAt L k).K (eAt L k).S (eAt L k).V W hv)
          rw [show argT (eAt L k).K (eAt L k).S (eAt L k).V = (eAt L k).tx from rfl] at HVx
          by_cases h0 : k = 0
          · subst h0
            have HJ : Hid (t ++ (eAt L 0).tx = pre ++ ⟨(joinA (L.take 1)).toArray⟩) := by
              unfold Hid
              have h1 := HTake.out
              rw [Nat.zero_add, List.take_zero, List.nil_append] at h1
              rw [h1, HT.out, List.take_zero, joinA_nil]
              have e : joinA [eAt L 0] = (eAt L 0).tx.data.toList := by have := joinA_snoc [] (eAt L 0); simpa using this
              rw [e]
              apply ByteArray.ext; apply Array.toList_inj.1; simp
            simp only [Nat.zero_mul, Nat.add_zero] at c0 c1 c2 c3 c4
            generalize (eAt L 0).tx = x at hxs HVx HJ
            have hts1 : t.size ≤ 14 := by omega
            clear hv hts
            go_wp2_with fail
            refine (HVx.out _).mono ?_
            rintro e w2 ⟨rfl, hb2⟩
            have hbel2 : Below w1.heap.size w1 w2 := hbel.trans (hb2.mono hbel.size)
            clear hb2 hbel c0 c1 c2 c3 c4 p1 hB
            go_wp2
            go_roundw
            case rel => exact ⟨1, t ++ x, by omega, by go_num, rfl, by rw [ByteArray.size_append]; omega, HJ.out, hbel2⟩
            case measure => simp [intOf]; omega
          · have hne : L.take k ≠ [] := fun e => by have := congrArg List.length e; rw [List.length_take, List.length_nil] at this; have := HN.out; omega
            have HJ : Hid (t ++ ⟨#[44, 32]⟩ ++ (eAt L k).tx = pre ++ ⟨(joinA (L.take (k + 1))).toArray⟩) := by
              unfold Hid
              rw [HTake.out, joinA_snoc, if_neg hne, HT.out]
              apply ByteArray.ext; apply Array.toList_inj.1; simp
            generalize (eAt L k).tx = x at hxs HVx HJ
            have hkp : (0 : Int) < (k : Int) := by omega
            clear hv hne h0
            go_wp2_with fail
            refine (HVx.out _).mono ?_
            rintro e w2 ⟨rfl, hb2⟩
            have hbel2 : Below w1.heap.size w1 w2 := hbel.trans (hb2.mono hbel.size)
            have hsz2 : (t ++ ⟨#[44, 32]⟩ : ByteArray).size = t.size + 2 := by rw [ByteArray.size_append, c44]
            clear hb2 hbel c0 c1 c2 c3 c4 p1 hB
            go_wp2
            go_roundw
            case rel => exact ⟨k + 1, t ++ ⟨#[44, 32]⟩ ++ x, by omega, by go_num, rfl, by rw [ByteArray.size_append, hsz2]; omega, HJ.out, hbel2⟩
            case measure => simp [intOf]; omega
        · obtain rfl : k = n := by omega
          have HT2 : Hid (t = pre ++ ⟨(joinA L).toArray⟩) := by
            have := HT.out
            rw [HN.out, List.take_length] at this
            exact this
          go_wp2
          go_ret
          exact ⟨by rw [HV.out, ← HT2.out]; rfl, hB⟩
end Go.Proofs.YtaflokfgbmlmaacDoor
