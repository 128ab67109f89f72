/-
  Texts of this claim joined into one: Name, FactOk, ParseFS, ParseFM, SplitP, CutP, Bytes, Bits, Num, Enc, TextR, Dec, EncT, EncV, ValR, ValsP, ParseC, TxV, FactT, FactTS, Cmp, Less, Order, FactL, FactInj, ParseFI, ParseFQ, ParseFW.
-/
import Derived.Test.YtfgigcdfmkfkjacDoorJoined1
import Derived.BigQuiet
import Derived.Deep.QuietTactic
import Derived.Deep.AppendLies
import Derived.Lib.IndexMore
import Derived.Lib.Split
import Derived.Test.YtfgigcdfmkfkjacDoorJPlain
import Derived.OpenShut
import Derived.Laws.BitsAllLaws
import Derived.Laws.IdiomStrings
import Derived.Lib.AppendStr
import Derived.Lib.Join
import Derived.Deep.RegionHeld3
import Derived.Deep.RegionWith
import Derived.Handy
import Derived.Lib.Strings
import Derived.Test.YtfgigcdfmkfkjacDoorShelf
/-
  What the functions on names answer, the tested one and the model alike: nameB of the text, in the world as it was.
-/
namespace Go.Proofs.YtfgigcdfmkfkjacDoor
open Go.RowKit
set_option linter.unusedVariables false

def headB (s : ByteArray) (i : Nat) : Bool := wordB (bat s i) && (i != 0 || inB (bat s i) 97 122)
def nameB (s : ByteArray) : Bool := (List.range s.size).all (headB s) && inB s.size 1 12

theorem nameB_no {s : ByteArray} {i : Nat} (h : i < s.size) (hb : headB s i = false) : nameB s = false := by
  unfold nameB
  rw [Bool.and_eq_false_iff]
  left
  rw [← Bool.not_eq_true, List.all_eq_true]
  intro h2
  have := h2 i (by simpa using h)
  rw [hb] at this
  cases this

theorem nameB_all {s : ByteArray} (h : ∀ i, i < s.size → headB s i = true) : nameB s = inB s.size 1 12 := by
  unfold nameB
  have : (List.range s.size).all (headB s) = true := by
    rw [List.all_eq_true]; intro i hi; exact h i (by simpa using hi)
  rw [this]; simp


set_option maxHeartbeats 800000 in
theorem specNameOk_any (s : ByteArray) (w : World) (hs : s.size ≤ maxLen) :
    Calls Tryd.prog 21 #[.string s] w fun e w' => e = .returned (.bool (nameB s)) ∧ w' = w := by
  unfold maxLen at hs
  go_enter Tryd.func21, Tryd.ntmps21
  go_wp2
  go_loop [3] (fun i => ∃ k : Nat, k ≤ s.size ∧ i = .int .i64 k ∧ ∀ j, j < k → headB s j = true) (fun i => s.size - (intOf i).toNat)
  case atStart => exact ⟨0, Nat.zero_le _, rfl, fun j hj => absurd hj (Nat.not_lt_zero _)⟩
  case round =>
    obtain ⟨k, hk, rfl, hall⟩ := hrel
    have HA := hide hall
    clear hall
    by_cases hlt : k < s.size
    · have hlb : 0 ≤ ((s[k]'hlt).toNat : Int) := by omega
      have hub : ((s[k]'hlt).toNat : Int) ≤ 255 := by have := (s[k]'hlt).toNat_lt; omega
      have HH : Hid (headB s k = (wordB ((s[k]'hlt).toNat : Int) && (k != 0 || inB ((s[k]'hlt).toNat : Int) 97 122))) := by
        unfold Hid headB; rw [bat_in hlt]
      cases hw : wordB ((s[k]'hlt).toNat : Int)
      · go_wp2_with (first | (go_at_call 33; refine (l1Letter_any _ _ (by omega) (by omega)).mono ?_; rintro e w' ⟨rfl, rfl⟩))
        rw [nameB_no hlt (by rw [HH.out, hw]; rfl)]
        go_ret
        exact ⟨rfl, rfl⟩
      · by_cases hk0 : 0 < k
        · go_wp2_with (first | (go_at_call 33; refine (l1Letter_any _ _ (by omega) (by omega)).mono ?_; rintro e w' ⟨rfl, rfl⟩))
          go_round
          case rel => exact ⟨k + 1, by omega, by go_num, fun j hj => by
            by_cases hjk : j = k
            · rw [hjk, HH.out, hw]; simp; omega
            · exact HA.out j (by omega)⟩
          case measure => simp [intOf]; omega
        · have h00 : 0 < s.size := by omega
          have hlb0 : 0 ≤ ((s[0]'h00).toNat : Int) := by omega
          have hub0 : ((s[0]'h00).toNat : Int) ≤ 255 := by have := (s[0]'h00).toNat_lt; omega
          have HK : Hid (∀ b, inB ((s[0]'h00).toNat : Int) 97 122 = b → headB s 0 = b) := by
            intro b hb
            have e : k = 0 := by omega
            subst e
            rw [HH.out, hw, hb]; simp
          clear HH
          cases hi : inB ((s[0]'h00).toNat : Int) 97 122
          · go_wp2_with (first | (go_at_call 33; refine (l1Letter_any _ _ (by omega) (by omega)).mono ?_; rintro e w' ⟨rfl, rfl⟩) | (go_at_call 31; refine (l1In_any _ _ _ _).mono ?_; rintro e w' ⟨rfl, rfl⟩))
            rw [nameB_no h00 (HK.out _ hi)]
            go_ret
            exact ⟨rfl, rfl⟩
          · go_wp2_with (first | (go_at_call 33; refine (l1Letter_any _ _ (by omega) (by omega)).mono ?_; rintro e w' ⟨rfl, rfl⟩) | (go_at_call 31; refine (l1In_any _ _ _ _).mono ?_; rintro e w' ⟨rfl, rfl⟩))
            go_round
            case rel => exact ⟨1, by omega, by go_num, fun j hj => by
              obtain rfl : j = 0 := by omega
              exact HK.out _ hi⟩
            case measure => simp [intOf]; omega
    · have HN := hide (nameB_all fun i hi => HA.out i (by omega))
      go_wp2_with (first | (go_at_call 31; refine (l1In_any _ _ _ _).mono ?_; rintro e w' ⟨rfl, rfl⟩))
      go_ret
      exact ⟨ret_bool HN.out.symm, rfl⟩

theorem nameB_size {s : ByteArray} (h : ¬ (1 ≤ s.size ∧ s.size ≤ 12)) : nameB s = false := by
  unfold nameB
  rw [Bool.and_eq_false_iff]
  right
  exact inB_f (by omega)

theorem nameB_tail {s : ByteArray} (h1 : 1 ≤ s.size) (h2 : s.size ≤ 12) (hi : inB (bat s 0) 97 122 = true) : nameB s = allB wordB s := by
  unfold nameB allB
  rw [inB_t (by omega), Bool.and_true]
  rw [Bool.eq_iff_iff, List.all_eq_true, List.all_eq_true]
  have e : ∀ i, headB s i = wordB (bat s i) := fun i => by
    unfold headB
    by_cases h0 : i = 0
    · subst h0; rw [hi]; simp
    · have : (i != 0) = true := by simpa using h0
      rw [this]; simp
  constructor
  · intro h i hm; rw [← e]; exact h i hm
  · intro h i hm; rw [e]; exact h i hm

set_option maxHeartbeats 800000 in
theorem implNameOk_any (s : ByteArray) (w : World) (hs : s.size ≤ maxLen) :
    Calls Tryd.prog 39 #[.string s] w fun e w' => e = .returned (.bool (nameB s)) ∧ w' = w := by
  have hs2 := hs
  unfold maxLen at hs2
  by_cases h1 : 1 ≤ s.size
  · by_cases h2 : s.size ≤ 12
    · have h0 : 0 < s.size := h1
      have HI : Hid (bat s 0 = ((s[0]'h0).toNat : Int)) := bat_in h0
      cases hi : inB ((s[0]'h0).toNat : Int) 97 122
      · rw [nameB_no h0 (by unfold headB; rw [HI.out, hi]; simp)]
        go_enter Tryd.func39, Tryd.ntmps39
        go_wp2_with (first | (go_at_call 51; refine (isSmall_any _ _).mono ?_; rintro e w' ⟨rfl, rfl⟩))
        go_ret
        exact ⟨rfl, rfl⟩
      · have HN := hide (nameB_tail h1 h2 (by rw [HI.out, hi]))
        go_enter Tryd.func39, Tryd.ntmps39
        go_wp2_with fail
        refine (isSmall_any _ _).mono ?_
        rintro e w' ⟨rfl, rfl⟩
        rw [hi]
        go_wp2_with fail
        refine (allBytesWord_any _ _ hs).mono ?_
        rintro e w' ⟨rfl, rfl⟩
        generalize allB wordB s = r at HN ⊢
        go_wp2
        go_ret
        exact ⟨ret_bool HN.out.symm, rfl⟩
    · rw [nameB_size (by omega)]
      go_enter Tryd.func39, Tryd.ntmps39
      go_wp2
      go_ret
      exact ⟨rfl, rfl⟩
  · rw [nameB_size (by omega)]
    go_enter Tryd.func39, Tryd.ntmps39
    go_wp2
    go_ret
    exact ⟨rfl, rfl⟩


end Go.Proofs.YtfgigcdfmkfkjacDoor
/-
  What the functions on a fact's rightness answer: factB, the tested one and the model alike.
-/
namespace Go.Proofs.YtfgigcdfmkfkjacDoor
open Go.RowKit
set_option linter.unusedVariables false

def factB (kd : ByteArray) (L : List V3) : Bool := nameB kd && decide (L.length ≤ 5) && L.all V3.ok
theorem all_no {L : List V3} {k : Nat} (hk : k < L.length) (h : valB (vAt L k).K (vAt L k).N (vAt L k).S = false) : L.all V3.ok = false := by
  rw [Bool.eq_false_iff]
  intro ha
  have := List.all_eq_true.1 ha L[k] (List.getElem_mem hk)
  rw [← vAt_in hk] at this
  unfold V3.ok at this
  rw [h] at this; cases this
theorem all_yes {L : List V3} (h : ∀ k, k < L.length → valB (vAt L k).K (vAt L k).N (vAt L k).S = true) : L.all V3.ok = true := by
  rw [List.all_eq_true]
  intro v hv
  obtain ⟨k, hk, rfl⟩ := List.getElem_of_mem hv
  rw [← vAt_in hk]; exact h k hk
theorem below_gn {w w' : World} (h : w.grownBy w' none) : Below w.heap.size w w' := (Below.refl _ _).grown h (Nat.le_refl _) (fun k hk => by cases hk)

set_option maxHeartbeats 1600000 in
theorem l3Vals_any (a : Option Addr) (cap : Nat) (L : List V3) (w : World) (hr : RdV w a L) (hs : ∀ v ∈ L, v.S.size ≤ maxLen) (hm : L.length ≤ 1048580) :
    Calls Tryd.prog 22 #[.slice a L.length cap] w fun e w' =>
      e = .returned (.bool (L.all V3.ok && decide (L.length ≤ 5))) ∧ Below w.heap.size w w' := by
  obtain ⟨n, hN⟩ : ∃ n, n = L.length := ⟨_, rfl⟩
  rw [← hN] at hm ⊢
  have HN := hide hN
  have HS := hide hs
  clear hN hs
  go_enter Tryd.func22, Tryd.ntmps22
  go_wp2
  go_loopw [3] (fun i wr => ∃ (k : Nat), k ≤ n ∧ i = .int .i64 k ∧ (∀ j, j < k → valB (vAt L j).K (vAt L j).N (vAt L j).S = true) ∧ Below w.heap.size w wr) (fun i _ => n - (intOf i).toNat)
  case atStart => exact ⟨0, Nat.zero_le _, rfl, fun j hj => absurd hj (Nat.not_lt_zero _), Below.refl _ _⟩
  case round =>
    obtain ⟨k, hk, rfl, hall, hbel⟩ := hrel
    have HA := hide hall
    clear hall
    by_cases hlt : k < n
    · obtain ⟨b, off, hab, hbw, hc⟩ := hr.open (by rw [← HN.out]; omega)
      obtain ⟨c0, c1, c2⟩ := hc k (by rw [← HN.out]; exact hlt)
      clear hc
      subst hab
      rw [← hbel.cell (p := ⟨b, off + k * 3, none⟩) hbw] at c0
      rw [← hbel.cell (p := ⟨b, off + k * 3 + 1, none⟩) hbw] at c1
      rw [← hbel.cell (p := ⟨b, off + k * 3 + 2, none⟩) hbw] at c2
      have hS : (vAt L k).S.size ≤ maxLen := by rw [vAt_in (by rw [← HN.out]; exact hlt)]; exact HS.out _ (List.getElem_mem _)
      go_wp2_with fail
      refine (specValOk_any _ _ _ _ hS).mono ?_
      rintro e w2 ⟨rfl, g2⟩
      have hbel2 : Below w.heap.size w w2 := hbel.trans ((below_gn g2).mono hbel.size)
      clear g2 hS c0 c1 c2 hbel
      cases hv : valB (vAt L k).K (vAt L k).N (vAt L k).S
      · have HV := hide (all_no (by rw [← HN.out]; exact hlt) hv)
        clear hv
        go_wp2
        go_ret
        exact ⟨ret_bool (by rw [HV.out]; rfl), hbel2⟩
      · have HV := hide hv
        clear hv
        go_wp2
        go_roundw
        case rel => exact ⟨k + 1, by omega, by go_num, fun j hj => by
            by_cases hjk : j = k
            · rw [hjk]; exact HV.out
            · exact HA.out j (by omega), hbel2⟩
        case measure => simp [intOf]; omega
    · have HV : Hid (L.all V3.ok = true) := all_yes (fun j hj => HA.out j (by rw [← HN.out] at hj; omega))
      have HD : Hid (decide ((n : Int) ≤ 5) = decide (n ≤ 5)) := by unfold Hid; exact decide_eq_decide.2 (by omega)
      go_wp2
      go_ret
      exact ⟨ret_bool (by rw [HV.out, Bool.true_and]; exact HD.out), hbel⟩

set_option maxHeartbeats 1600000 in
theorem specFactOk_any (kd : ByteArray) (a : Option Addr) (cap : Nat) (L : List V3) (w : World) (hkd : kd.size ≤ maxLen) (hr : RdV w a L) (hs : ∀ v ∈ L, v.S.size ≤ maxLen) (hm : L.length ≤ 1048580) :
    Calls Tryd.prog 11 #[.agg #[.string kd, .slice a L.length cap]] w fun e w' =>
      e = .returned (.bool (factB kd L)) ∧ Below w.heap.size w w' := by
  have HF : Hid (factB kd L = (nameB kd && (L.all V3.ok && decide (L.length ≤ 5)))) := by unfold Hid factB; rw [Bool.and_assoc, Bool.and_comm (decide _)]
  have b0 := below_al w (.cells #[.string kd, .slice a L.length cap] 24)
  cases hn : nameB kd
  · rw [hn] at HF
    go_enter Tryd.func11, Tryd.ntmps11
    go_wp2_with (go_at_call 21; refine (specNameOk_any _ _ hkd).mono ?_; rintro e w' ⟨rfl, rfl⟩)
    go_ret
    exact ⟨ret_bool HF.out.symm, b0⟩
  · rw [hn] at HF
    go_enter Tryd.func11, Tryd.ntmps11
    go_wp2_with fail
    refine (specNameOk_any _ _ hkd).mono ?_
    rintro e w' ⟨rfl, rfl⟩
    go_wp2_with fail
    refine (l3Vals_any a cap L _ (hr.below b0) hs hm).mono ?_
    rintro e w1 ⟨rfl, hb⟩
    have hB : Below w.heap.size w w1 := b0.trans (hb.mono b0.size)
    generalize (L.all V3.ok && decide (L.length ≤ 5)) = r at HF ⊢
    go_wp2
    go_ret
    exact ⟨ret_bool (by rw [HF.out]; rfl), hB⟩

set_option maxHeartbeats 1600000 in
theorem listV_any (a : Option Addr) (cap : Nat) (L : List V3) (w : World) (hr : RdV w a L) (hs : ∀ v ∈ L, v.S.size ≤ maxLen) (hm : L.length ≤ 1048580) :
    Calls Tryd.prog 40 #[.slice a L.length cap, .int .i64 0, .int .i64 5, .func (.func 28) #[] #[]] w fun e w' =>
      e = .returned (.bool (decide (L.length ≤ 5) && L.all V3.ok)) ∧ Below w.heap.size w w' := by
  obtain ⟨n, hN⟩ : ∃ n, n = L.length := ⟨_, rfl⟩
  rw [← hN] at hm ⊢
  have HN := hide hN
  have HS := hide hs
  clear hN hs
  by_cases h5 : n ≤ 5
  · have HF : Hid ((decide (n ≤ 5) && L.all V3.ok) = L.all V3.ok) := by unfold Hid; rw [decide_eq_true h5]; rfl
    go_enter Tryd.func40, Tryd.ntmps40
    go_wp2
    go_loopw [23] (fun i wr => ∃ (k : Nat), k ≤ n ∧ i = .int .i64 k ∧ (∀ j, j < k → valB (vAt L j).K (vAt L j).N (vAt L j).S = true) ∧ Below w.heap.size w wr) (fun i _ => n - (intOf i).toNat)
    case atStart => exact ⟨0, Nat.zero_le _, rfl, fun j hj => absurd hj (Nat.not_lt_zero _), Below.refl _ _⟩
    case round =>
      obtain ⟨k, hk, rfl, hall, hbel⟩ := hrel
      have HA := hide hall
      clear hall
      by_cases hlt : k < n
      · obtain ⟨b, off, hab, hbw, hc⟩ := hr.open (by rw [← HN.out]; omega)
        obtain ⟨c0, c1, c2⟩ := hc k (by rw [← HN.out]; exact hlt)
        clear hc
        subst hab
        rw [← hbel.cell (p := ⟨b, off + k * 3, none⟩) hbw] at c0
        rw [← hbel.cell (p := ⟨b, off + k * 3 + 1, none⟩) hbw] at c1
        rw [← hbel.cell (p := ⟨b, off + k * 3 + 2, none⟩) hbw] at c2
        have hS : (vAt L k).S.size ≤ maxLen := by rw [vAt_in (by rw [← HN.out]; exact hlt)]; exact HS.out _ (List.getElem_mem _)
        have hbel1 := hbel.alloc hbel.size (.cells #[.int .i64 (vAt L k).K, .int .i64 (vAt L k).N, .string (vAt L k).S] 33)
        go_wp2_with fail
        refine (implValOk_any _ _ _ _ hS).mono ?_
        rintro e w2 ⟨rfl, hb2⟩
        have hbel2 : Below w.heap.size w w2 := hbel1.trans (hb2.mono hbel1.size)
        clear hb2 hS c0 c1 c2 hbel hbel1
        cases hv : valB (vAt L k).K (vAt L k).N (vAt L k).S
        · have HV := hide (all_no (by rw [← HN.out]; exact hlt) hv)
          clear hv
          go_wp2
          go_ret
          exact ⟨ret_bool (by rw [HF.out, HV.out]), hbel2⟩
        · have HV := hide hv
          clear hv
          go_wp2
          go_roundw
          case rel => exact ⟨k + 1, by omega, by go_num, fun j hj => by
              by_cases hjk : j = k
              · rw [hjk]; exact HV.out
              · exact HA.out j (by omega), hbel2⟩
          case measure => simp [intOf]; omega
      · have HV : Hid (L.all V3.ok = true) := all_yes (fun j hj => HA.out j (by rw [← HN.out] at hj; omega))
        go_wp2
        go_ret
        exact ⟨ret_bool (by rw [HF.out, HV.out]), hbel⟩
  · have HF : Hid ((decide (n ≤ 5) && L.all V3.ok) = false) := by unfold Hid; rw [decide_eq_false h5]; rfl
    have hn : (5 : Int) < (n : Int) := by omega
    go_enter Tryd.func40, Tryd.ntmps40
    go_wp2
    go_ret
    exact ⟨ret_bool HF.out.symm, Below.refl _ _⟩

set_option maxHeartbeats 1600000 in
theorem namedV_any (kd : ByteArray) (a : Option Addr) (cap : Nat) (L : List V3) (w : World) (hkd : kd.size ≤ maxLen) (hr : RdV w a L) (hs : ∀ v ∈ L, v.S.size ≤ maxLen) (hm : L.length ≤ 1048580) :
    Calls Tryd.prog 27 #[.string kd, .slice a L.length cap, .func (.func 28) #[] #[]] w fun e w' =>
      e = .returned (.bool (factB kd L)) ∧ Below w.heap.size w w' := by
  have HF : Hid (factB kd L = (nameB kd && (decide (L.length ≤ 5) && L.all V3.ok))) := by unfold Hid factB; rw [Bool.and_assoc]
  cases hn : nameB kd
  · rw [hn] at HF
    go_enter Tryd.func27, Tryd.ntmps27
    go_wp2_with (go_at_call 39; refine (implNameOk_any _ _ hkd).mono ?_; rintro e w' ⟨rfl, rfl⟩)
    go_ret
    exact ⟨ret_bool HF.out.symm, Below.refl _ _⟩
  · rw [hn] at HF
    go_enter Tryd.func27, Tryd.ntmps27
    go_wp2_with fail
    refine (implNameOk_any _ _ hkd).mono ?_
    rintro e w' ⟨rfl, rfl⟩
    go_wp2_with fail
    refine (listV_any a cap L _ hr hs hm).mono ?_
    rintro e w1 ⟨rfl, hb⟩
    generalize (decide (L.length ≤ 5) && L.all V3.ok) = r at HF ⊢
    go_wp2
    go_ret
    exact ⟨ret_bool (by rw [HF.out]; rfl), hb⟩

set_option maxHeartbeats 1600000 in
theorem implFactOk_any (kd : ByteArray) (a : Option Addr) (cap : Nat) (L : List V3) (w : World) (hkd : kd.size ≤ maxLen) (hr : RdV w a L) (hs : ∀ v ∈ L, v.S.size ≤ maxLen) (hm : L.length ≤ 1048580) :
    Calls Tryd.prog 15 #[.agg #[.string kd, .slice a L.length cap]] w fun e w' =>
      e = .returned (.bool (factB kd L)) ∧ Below w.heap.size w w' := by
  have b0 := below_al w (.cells #[.string kd, .slice a L.length cap] 24)
  go_enter Tryd.func15, Tryd.ntmps15
  go_wp2_with fail
  refine (namedV_any kd a cap L _ hkd (hr.below b0) hs hm).mono ?_
  rintro e w1 ⟨rfl, hb⟩
  have hB : Below w.heap.size w w1 := b0.trans (hb.mono b0.size)
  go_wp2
  go_ret
  exact ⟨rfl, hB⟩
end Go.Proofs.YtfgigcdfmkfkjacDoor
/-
  What the model's ParseFact answers: parseFS.
-/
namespace Go.Proofs.YtfgigcdfmkfkjacDoor
open Go.RowKit
set_option linter.unusedVariables false

/-- the values of the first k pieces, where each is one -/
def valK (ws : List ByteArray) : Nat → Option (List V3)
  | 0 => some []
  | k + 1 => match valK ws k with
    | none => none
    | some M => match parseO (sAt ws k) with
      | none => none
      | some v => some (M ++ [v])
theorem valK_hit {ws : List ByteArray} {k : Nat} {M : List V3} {v : V3} (h : valK ws k = some M) (hv : parseO (sAt ws k) = some v) : valK ws (k + 1) = some (M ++ [v]) := by
  rw [valK, h]; simp only; rw [hv]
theorem valK_miss {ws : List ByteArray} {k : Nat} {M : List V3} (h : valK ws k = some M) (hv : parseO (sAt ws k) = none) : valK ws (k + 1) = none := by
  rw [valK, h]; simp only; rw [hv]
theorem valK_none {ws : List ByteArray} {k : Nat} (h : valK ws k = none) : ∀ m, k ≤ m → valK ws m = none
  | 0, hm => by
    have e : k = 0 := by omega
    rw [← e]
    exact h
  | m + 1, hm => by
    by_cases e : k = m + 1
    · rw [← e]; exact h
    · rw [valK, valK_none h m (by omega)]
theorem valK_len {ws : List ByteArray} : ∀ {k : Nat} {M : List V3}, valK ws k = some M → M.length = k
  | 0, M, h => by cases h; rfl
  | k + 1, M, h => by
    rw [valK] at h
    cases h1 : valK ws k with
    | none => rw [h1] at h; cases h
    | some N =>
      rw [h1] at h
      simp only at h
      cases h2 : parseO (sAt ws k) with
      | none => rw [h2] at h; cases h
      | some v =>
        rw [h2] at h
        cases h
        rw [List.length_append, valK_len h1]; rfl
/-- what is within the brackets -/
def innerS (s : ByteArray) : ByteArray := (sAt (splitE s 40) 1).extract 0 ((sAt (splitE s 40) 1).size - 1)
/-- whether a text has one opening bracket, and a closing one at its end -/
def twoB (s : ByteArray) : Bool := decide ((splitE s 40).length = 2) && (if h : 0 < s.size then decide ((s[s.size - 1]'(by omega)).toNat = 41) else false)
/-- the values within -/
def withinO (s : ByteArray) : Option (List V3) := if (innerS s).size = 0 then some [] else valK (splitE (innerS s) 44) (splitE (innerS s) 44).length
/-- a fact's text read, plainly -/
def parseFS (s : ByteArray) : Option (ByteArray × List V3) := if twoB s then (match withinO s with
    | some M => if factB (sAt (splitE s 40) 0) M then some (sAt (splitE s 40) 0, M) else none
    | none => none) else none
theorem splitE_none (s : ByteArray) (h : s.size = 0) (c : Nat) : (splitE s c).length = 1 := by
  unfold splitE
  rw [h]
  simp [spF]
theorem last_size {s : ByteArray} (h0 : 0 < s.size) (h : (s[s.size - 1]'(by omega)).toNat = 41) : (spF s 40 s.size).2 ≤ s.size - 1 := by
  obtain ⟨n, hn⟩ : ∃ n, s.size = n + 1 := ⟨s.size - 1, by omega⟩
  have e : spF s 40 s.size = spF s 40 (s.size - 1) := by
    rw [hn]
    show spF s 40 (n + 1) = spF s 40 n
    refine spF_miss (by omega) ?_
    have : (s[n]'(by omega)).toNat = 41 := by
      have h2 := h
      simp only [hn, Nat.add_sub_cancel] at h2
      exact h2
    omega
  rw [e]
  exact (spF_le s 40 _).1
end Go.Proofs.YtfgigcdfmkfkjacDoor
/-
  The model's ParseFact: what it answers is parseFS.
-/
namespace Go.Proofs.YtfgigcdfmkfkjacDoor
open Go.RowKit
set_option linter.unusedVariables false

/-- what the model's ParseFact answers -/
def ParsesS (s : ByteArray) (base : Nat) (e : Ending) (w : World) : Prop := ∃ (kd : ByteArray) (v : Value) (b : Bool) (L : List V3),
  e = .returned (.tuple #[.agg #[.string kd, v], .bool b]) ∧ w.ownsRow base 33 3 v L.length (cells3 L) ∧ parseFS s = (if b then some (kd, L) else none) ∧ (b = false → kd = ⟨#[]⟩ ∧ v = .slice none 0 0)

theorem app3m (L : List V3) (u : V3) : cells3 L ++ [.int .i64 u.K, .int .i64 u.N, .string u.S] = cells3 (L ++ [u]) := by simp [cells3]
theorem newsM_src (W : World) (u : V3) : ∀ j x, ([.int .i64 u.K, .int .i64 u.N, .string u.S] : List Value)[j]? = some x → (W.alloc (.cells #[.int .i64 u.K, .int .i64 u.N, .string u.S] 33)).cell? ((⟨W.heap.size, 0, none⟩ : Addr).add j) = some x := by
  obtain ⟨h0, h1, h2, -, -, -⟩ := box_cell (box_new W (.int .i64 u.K) (.int .i64 u.N) (.string u.S) 33)
  intro j x hj
  rw [Addr.add_lit, Nat.zero_add]
  match j, hj with
  | 0, hj => rw [h0]; simpa using hj
  | 1, hj => rw [h1]; simpa using hj
  | 2, hj => rw [h2]; simpa using hj
theorem newsM_one (u : V3) : ∀ x ∈ ([.int .i64 u.K, .int .i64 u.N, .string u.S] : List Value), x.oneCell' = true := by
  intro x hx
  simp only [List.mem_cons, List.not_mem_nil, or_false] at hx
  rcases hx with rfl | rfl | rfl <;> rfl
theorem ownsM_lower {w : World} {b b' n size : Nat} {T : TypeId} {v : Value} {xs : List Value} (h : w.ownsRow b T size v n xs) (hb : b' ≤ b) : w.ownsRow b' T size v n xs := by
  refine ⟨h.1, ?_⟩
  rcases h.2 with h2 | ⟨g, cap, cur, h2, h3, h4⟩
  · exact .inl h2
  · exact .inr ⟨g, cap, cur, h2, Nat.le_trans hb h3, h4⟩
theorem parseM_small {p : ByteArray} {v : V3} (h : parseO p = some v) : v.S.size ≤ p.size := by
  unfold parseO at h
  split at h
  · split at h
    · cases h
      show (ByteArray.extract _ _ _).size ≤ _
      rw [ByteArray.size_extract]; omega
    · cases h
  · revert h
    cases numV p.data.toList with
    | none => intro h; cases h
    | some n => intro h; cases h; exact Nat.zero_le _
theorem spF_size (s : ByteArray) (c : Nat) : ∀ k, ∀ p ∈ (spF s c k).1, p.size ≤ s.size
  | 0 => by intro p hp; cases hp
  | k + 1 => by
    have ih := spF_size s c k
    unfold spF
    split
    · split
      · intro p hp
        rcases List.mem_append.1 hp with hp | hp
        · exact ih p hp
        · rw [List.mem_singleton] at hp
          rw [hp, ByteArray.size_extract]; omega
      · exact ih
    · exact ih
theorem splitE_size {s : ByteArray} {c : Nat} : ∀ p ∈ splitE s c, p.size ≤ s.size := fun p hp => by
  unfold splitE at hp
  rcases List.mem_append.1 hp with hp | hp
  · exact spF_size s c _ p hp
  · rw [List.mem_singleton] at hp
    rw [hp, ByteArray.size_extract]; omega
theorem splitE_le (s : ByteArray) (c : Nat) : 1 ≤ (splitE s c).length ∧ (splitE s c).length ≤ s.size + 1 := by
  unfold splitE
  rw [List.length_append]
  have := (spF_le s c s.size).2
  simp; omega
theorem valK_keep {ws : List ByteArray} {k : Nat} (h : valK ws k = none) {m : Nat} (hm : k ≤ m) : valK ws m = none := valK_none h m hm

theorem cellM_gr {w w' : World} {q x o : Nat} {v : Value} (hg : w.grownBy w' (some q)) (hc : w.cell? ⟨x, o, none⟩ = some v) (hx : x ≠ q) : w'.cell? ⟨x, o, none⟩ = some v := by
  rw [World.cell?_of_block (hg.block x (World.block_lt_of_cell? w _ hc) (fun e => hx (Option.some.inj e)))]; exact hc
theorem emptyM_t {S : ByteArray} (h : S.size = 0) : S.toList.isEmpty = true := by
  rw [ByteArray.toList_eq, List.isEmpty_iff]
  exact List.eq_nil_of_length_eq_zero (by rw [Array.length_toList]; exact h)
theorem emptyM_f {S : ByteArray} (h : S.size ≠ 0) : S.toList.isEmpty = false := by
  rw [ByteArray.toList_eq, List.isEmpty_eq_false_iff]
  intro e
  have := congrArg List.length e
  rw [Array.length_toList] at this
  exact h this
/-- the reading on its way: the result's box, the fact's, the pieces, the values -/
structure PfS (w : World) (R F g B : Nat) (kd : ByteArray) (ws : List ByteArray) (aM : Option Addr) (cM : Nat) (M : List V3) (W : World) : Prop where
  bR : W.heap[R]? = some (.cells #[.string ⟨#[]⟩, .slice none 0 0] 24 (0, 0))
  bF : W.heap[F]? = some (.cells #[.string kd, .slice aM M.length cM] 24 (0, 0))
  wd : ∀ i, i < ws.length → W.cell? ⟨g, i, none⟩ = some (.string (sAt ws i))
  ow : W.ownsRow B 33 3 (.slice aM M.length cM) M.length (cells3 M)
  bel : Below w.heap.size w W
  far : w.heap.size ≤ R ∧ R < F ∧ F < g ∧ g < B ∧ B ≤ W.heap.size
theorem PfS.keep {w W W' : World} {R F g B : Nat} {kd : ByteArray} {ws : List ByteArray} {aM : Option Addr} {cM : Nat} {M : List V3} (h : PfS w R F g B kd ws aM cM M W) (hb : Below W.heap.size W W') : PfS w R F g B kd ws aM cM M W' :=
  ⟨box_step h.bR hb, box_step h.bF hb, fun i hi => (hb.cell (World.block_lt_of_cell? W _ (h.wd i hi))).trans (h.wd i hi), ownsRow_below h.ow hb, h.bel.trans (hb.mono h.bel.size), by have := h.far; have := hb.size; omega⟩
theorem PfS.put {w W W' : World} {R F g B : Nat} {kd : ByteArray} {ws : List ByteArray} {aM : Option Addr} {cM : Nat} {M : List V3} (h : PfS w R F g B kd ws aM cM M W) {v : V3} {g5 c5 : Nat}
    (hg : W.grownBy W' (Value.slice aM M.length cM).ownBlock) (ho : W'.ownsRow B 33 3 (.slice (some ⟨g5, 0, none⟩) (M.length + 1) c5) (M.length + 1) (cells3 (M ++ [v]))) :
    PfS w R F g B kd ws (some ⟨g5, 0, none⟩) c5 (M ++ [v]) (W'.setCell ⟨F, 1, none⟩ (.slice (some ⟨g5, 0, none⟩) (M.length + 1) c5)) := by
  have far := h.far
  have hb : Below B W W' := (Below.refl B W).grown hg (by omega) (fun k hk => (h.ow.lt k hk).1)
  have e1 := box_below h.bR hb (by omega)
  have e2 := box_below h.bF hb (by omega)
  obtain ⟨e3, gr⟩ := box2_set1 e2 (.slice (some ⟨g5, 0, none⟩) (M.length + 1) c5)
  refine ⟨box_gr e1 gr (by omega), by rw [List.length_append]; exact e3, fun i hi => cellM_gr gr ((hb.cell (p := ⟨g, i, none⟩) (by show g < B; omega)).trans (h.wd i hi)) (by omega), ?_, ?_, ?_⟩
  · rw [List.length_append]
    exact ho.kept gr (by
      cases hv2 : Value.ownBlock (.slice (some ⟨g5, 0, none⟩) (M.length + 1) c5) with
      | none => exact .inl rfl
      | some k => right; intro e; have := (ho.lt k hv2).1; cases e; omega)
  · exact (h.bel.trans (hb.mono (by omega))).grown gr (by have := h.bel.size; have := hb.size; omega) (fun k hk => by cases hk; omega)
  · have := gr.size; have := hb.size; omega

set_option maxRecDepth 100000 in
set_option maxHeartbeats 3200000 in
theorem specParseFact_any (s : ByteArray) (w : World) (hs : s.size ≤ 1048576) :
    Calls Tryd.prog 4 #[.string s] w fun e w' => ParsesS s w.heap.size e w' ∧ Below w.heap.size w w' := by
  obtain ⟨i0, hi, hz0, hz1, hz2⟩ := info_parts Tryd.info33
  have HNo : Hid (parseFS s = none → ∀ W : World, ParsesS s w.heap.size (.returned (.tuple #[.agg #[.string ⟨#[]⟩, .slice none 0 0], .bool false])) W) := fun h W => ⟨_, _, _, [], rfl, World.ownsRow_nil _ _ _ _, h, fun _ => ⟨rfl, rfl⟩⟩
  have b0 := below_al w (.cells #[.string ⟨#[]⟩, .slice none 0 0] 24)
  have hR0 := box2_new w (.string ⟨#[]⟩) (.slice none 0 0) 24
  go_enter Tryd.func4, Tryd.ntmps4
  go_wp2_with fail
  have z0 : (w.alloc (.cells #[.string ⟨#[]⟩, .slice none 0 0] 24)).heap.size = w.heap.size + 1 := by simp
  generalize w.alloc (.cells #[.string ⟨#[]⟩, .slice none 0 0] 24) = w0 at b0 hR0 z0 ⊢
  refine (l3Split_any s 40 _ hs (by decide)).mono ?_
  rintro e w1 ⟨⟨g, cp, rfl, ho1⟩, hb1⟩
  have b1 : Below w.heap.size w w1 := b0.trans (hb1.mono b0.size)
  have hR1 := box_step hR0 hb1
  have z1 : w.heap.size < w1.heap.size := by have := hb1.size; omega
  have hrs := rdS_of ho1
  clear hb1 hR0 b0 ho1 z0
  obtain ⟨r0, r1, f0, f1⟩ := box2_cell hR1
  by_cases h2 : (splitE s 40).length = 2
  · have hs0 : 0 < s.size := Nat.pos_of_ne_zero (fun h => by rw [splitE_none s h] at h2; omega)
    have hq : (((splitE s 40).length : Int) != 2) = false := by rw [h2]; rfl
    by_cases h41 : (s[s.size - 1]'(by omega)).toNat = 41
    · have k0 : (0 : Int) ≤ (s.size : Int) - 1 := by omega
      have k1 : (s.size : Int) - 1 < (s.size : Int) := by omega
      have k2 : (((s[s.size - 1]'(by omega)).toNat : Int) != 41) = false := by rw [h41]; rfl
      have HT : Hid (twoB s = true) := by unfold Hid twoB; rw [dif_pos hs0, decide_eq_true h41, decide_eq_true h2]; rfl
      obtain ⟨gb, of, e1, p0⟩ := hrs 0 (by omega)
      simp only [Option.some.injEq, Addr.mk.injEq] at e1
      obtain ⟨rfl, rfl, -⟩ := e1
      obtain ⟨gb, of, e1, p1⟩ := hrs 1 (by omega)
      simp only [Option.some.injEq, Addr.mk.injEq] at e1
      obtain ⟨rfl, rfl, -⟩ := e1
      rw [Nat.zero_add] at p0 p1
      have hq1 : 1 ≤ (sAt (splitE s 40) 1).size := by
        have h3 := last_size hs0 h41
        have h4 : (spF s 40 s.size).1.length = 1 := by unfold splitE at h2; simp at h2; exact h2
        have h5 : sAt (splitE s 40) 1 = s.extract (spF s 40 s.size).2 s.size := by
          rw [sAt_in (by omega)]
          unfold splitE
          rw [List.getElem_append_right (by omega)]
          simp [h4]
        rw [h5, ByteArray.size_extract]
        omega
      have hqs : (sAt (splitE s 40) 1).size ≤ 1048576 := by
        rw [sAt_in (by omega)]
        exact Nat.le_trans (splitE_size _ (List.getElem_mem _)) hs
      have hks : (sAt (splitE s 40) 0).size ≤ maxLen := by
        rw [sAt_in (by omega)]
        have := splitE_size _ (List.getElem_mem (l := splitE s 40) (n := 0) (by omega))
        unfold maxLen; omega
      have HI : Hid (innerS s = (sAt (splitE s 40) 1).extract 0 ((sAt (splitE s 40) 1).size - 1)) := rfl
      have HK : Hid (parseFS s = (match withinO s with | some M => if factB (sAt (splitE s 40) 0) M then some (sAt (splitE s 40) 0, M) else none | none => none)) := by unfold Hid parseFS; rw [HT.out]; rfl
      generalize sAt (splitE s 40) 0 = kd at p0 HK hks
      generalize sAt (splitE s 40) 1 = q at p1 hq1 hqs HI
      have q0 : (0 : Int) ≤ (q.size : Int) - 1 := by omega
      have q1 : (q.size : Int) - 1 ≤ (q.size : Int) := by omega
      have ba := below_al w1 (.cells #[.string kd, .slice none 0 0] 24)
      have HR2 := hide (box_step hR1 ba)
      have HF2 := hide (box2_new w1 (.string kd) (.slice none 0 0) 24)
      have HB2 := hide (b1.trans (ba.mono b1.size))
      have P1 : Hid ((w1.alloc (.cells #[.string kd, .slice none 0 0] 24)).cell? ⟨g, 1, none⟩ = some (.string q)) := by unfold Hid; rw [ba.cell (World.block_lt_of_cell? w1 _ p1)]; exact p1
      have HZ2 : Hid ((w1.alloc (.cells #[.string kd, .slice none 0 0] 24)).heap.size = w1.heap.size + 1) := by unfold Hid; simp
      clear ba
      go_wp2_with fail
      generalize w1.alloc (.cells #[.string kd, .slice none 0 0] 24) = w2 at HR2 HF2 HB2 P1 HZ2 ⊢
      have P1' := P1.out
      clear p0 p1 r0 r1 f0 f1 hrs
      go_quiet (fail)
      go_wp2_with fail
      obtain ⟨inn, hinn⟩ : ∃ inn, q.extract 0 (q.size - 1) = inn := ⟨_, rfl⟩
      have hin : inn.size ≤ 1048576 := by rw [← hinn, ByteArray.size_extract]; omega
      rw [hinn] at HI
      rw [hinn]
      have HR2' : Hid ((w2.drewN nq).heap[w.heap.size]? = some (.cells #[.string ⟨#[]⟩, .slice none 0 0] 24 (0, 0))) := HR2.out
      have HF2' : Hid ((w2.drewN nq).heap[w1.heap.size]? = some (.cells #[.string kd, .slice none 0 0] 24 (0, 0))) := HF2.out
      have HB2' : Hid (Below w.heap.size w (w2.drewN nq)) := HB2.out.trans (show Below w.heap.size w2 (w2.drewN nq) from ⟨rfl, rfl, rfl, Nat.le_refl _, fun _ _ => rfl⟩)
      have HZ2' : Hid ((w2.drewN nq).heap.size = w1.heap.size + 1) := HZ2.out
      clear HR2 HF2 HB2 HZ2 P1 P1' hinn q0 q1 hq1 hqs
      generalize w2.drewN nq = w2 at HR2' HF2' HB2' HZ2' ⊢
      refine (l3Split_any inn 44 _ hin (by decide)).mono ?_
      rintro e w3 ⟨⟨g2, cp2, rfl, ho3⟩, hb3⟩
      obtain ⟨ws, hws⟩ : ∃ ws, splitE inn 44 = ws := ⟨_, rfl⟩
      have hwl : 1 ≤ ws.length ∧ ws.length ≤ 1048577 := by rw [← hws]; have := splitE_le inn 44; omega
      have HW : Hid (withinO s = if inn.size = 0 then some [] else valK ws ws.length) := by unfold Hid withinO; rw [HI.out, hws]
      have HSz : Hid (∀ p ∈ ws, p.size ≤ 1048576) := fun p hp => by rw [← hws] at hp; exact Nat.le_trans (splitE_size p hp) hin
      rw [hws] at ho3 ⊢
      have hg2 := ho3.lt g2 rfl
      have T3 : PfS w w.heap.size w1.heap.size g2 w3.heap.size kd ws none 0 [] w3 := ⟨box_step HR2'.out hb3, box_step HF2'.out hb3, fun i hi => by
          obtain ⟨b, off, e1, e2⟩ := rdS_of ho3 i hi
          simp only [Option.some.injEq, Addr.mk.injEq] at e1
          obtain ⟨rfl, rfl, -⟩ := e1
          rw [Nat.zero_add] at e2
          exact e2, World.ownsRow_nil _ _ _ _, HB2'.out.trans (hb3.mono HB2'.out.size), by have := HZ2'.out; omega⟩
      clear ho3 hb3 HR2' HF2' HB2' hws hg2 HI HT
      have HT3 := hide T3
      clear T3
      go_wp2_with fail
      go_loopw [9] (fun ii wr => ∃ (M : List V3) (aM : Option Addr) (cM : Nat), M.length ≤ ws.length ∧ ii = .int .i64 (M.length : Int) ∧ valK ws M.length = some M ∧ (inn.size = 0 → M.length = 0) ∧ (∀ v ∈ M, v.S.size ≤ 1048576) ∧ PfS w w.heap.size w1.heap.size g2 w3.heap.size kd ws aM cM M wr) (fun ii _ => ws.length - (intOf ii).toNat)
      case atStart => exact ⟨[], none, 0, Nat.zero_le _, rfl, rfl, fun _ => rfl, (fun v hv => by cases hv), HT3.out⟩
      case round =>
        obtain ⟨M, aM, cM, hM, rfl, hval, hem, hsm, T⟩ := hrel
        have HVal := hide hval
        have HSm := hide hsm
        have HTr := hide T
        have HEm := hide hem
        clear hval hsm HT3 hem
        by_cases hgo : M.length < ws.length ∧ inn.size ≠ 0
        · obtain ⟨hlt, hne⟩ := hgo
          have hb : inn.toList.isEmpty = false := emptyM_f hne
          have hx1 : (M.length : Int) < (ws.length : Int) := by omega
          have c0 := T.wd M.length hlt
          have HWn : Hid (withinO s = valK ws ws.length) := by unfold Hid; rw [HW.out, if_neg hne]
          have hps : (sAt ws M.length).size ≤ 1048576 := by rw [sAt_in hlt]; exact HSz.out _ (List.getElem_mem hlt)
          obtain ⟨p, hp⟩ : ∃ p, Hid (sAt ws M.length = p) := ⟨_, rfl⟩
          rw [hp.out] at c0 hps
          have HNe := hide hne
          clear T hne
          go_wp2_with fail
          refine (specParse_any p _ hps).mono ?_
          rintro e w5 ⟨rfl, hb5⟩
          have T5 := HTr.out.keep hb5
          clear HTr hb5 c0
          cases hv : parseO p with
          | none =>
            have HN : Hid (parseFS s = none) := by
              unfold Hid
              rw [HK.out, HWn.out, valK_none (valK_miss HVal.out (by rw [hp.out]; exact hv)) _ hlt]
            have T6 := T5.keep (below_al w5 (.cells #[.int .i64 0, .int .i64 0, .string ⟨#[]⟩] 33))
            obtain ⟨r0, r1, f0, f1⟩ := box2_cell T6.bR
            clear hv
            unfold ansO
            go_wp2
            refine box2_post T6.bR (fun w4 h4 gr => ?_)
            clear r0 r1 f0 f1
            obtain ⟨c0, c1, -, -⟩ := box2_cell h4
            exact bodyPost_ret (v := .tuple #[.agg #[.string ⟨#[]⟩, .slice none 0 0], .bool false]) (by simp [results, Tryd.results4, go_sem, c0, c1]) rfl ⟨HNo.out HN.out _, below_set T6.bel gr (by omega)⟩
          | some v =>
            obtain ⟨K, N, S⟩ := v
            have HG2 := hide (valK_hit HVal.out (by rw [hp.out]; exact hv))
            have hSs : S.size ≤ 1048576 := Nat.le_trans (parseM_small hv) hps
            have T6 := (T5.keep (below_al w5 (.cells #[.int .i64 K, .int .i64 N, .string S] 33))).keep (below_al _ (.cells #[.int .i64 K, .int .i64 N, .string S] 33))
            have HSrc := hide (newsM_src (w5.alloc (.cells #[.int .i64 K, .int .i64 N, .string S] 33)) ⟨K, N, S⟩)
            have t5 := (box2_cell (T5.keep (below_al w5 (.cells #[.int .i64 K, .int .i64 N, .string S] 33))).bF).2.1
            have HT6 := hide T6
            have hB6 := T6.far
            clear hv T5 T6
            unfold ansO
            go_wp2_with (at_builtin; refine wpList_append_lies _ rfl (.tmp 64) (.tmp 66) 22 rfl w3.heap.size 33 i0 (.agg #[.int .i64 0, .int .i64 0, .string ⟨#[]⟩]) 3 32 Tryd.underlying22 hi hz0 hz1 hz2 rfl (by omega) (.slice aM M.length cM) M.length (cells3 M) rfl HT6.out.ow ⟨(w5.alloc (.cells #[.int .i64 K, .int .i64 N, .string S] 33)).heap.size, 0, none⟩ 1 1 [.int .i64 K, .int .i64 N, .string S] ?hx rfl HSrc.out (newsM_one ⟨K, N, S⟩) (by omega) (by unfold maxLen; omega) (by omega) hB6.2.2.2.2 _ rfl ?_)
            case hx => simp [Act.eval]
            intro g5 c5 w6 ho6 hg6 hat6 hlt6
            have T7 := HT6.out.put (v := ⟨K, N, S⟩) hg6 (by rw [← app3m]; exact ho6)
            have hbB : Below w3.heap.size _ w6 := (Below.refl w3.heap.size _).grown hg6 hB6.2.2.2.2 (fun k hk => (HT6.out.ow.lt k hk).1)
            have e2 := box_below HT6.out.bF hbB (by omega)
            obtain ⟨x0, x1, y0, y1⟩ := box2_cell e2
            have HT7 := hide T7
            clear ho6 hg6 hat6 hlt6 HT6 HSrc hbB e2 T7 t5
            go_wp2
            go_roundw
            case rel => exact ⟨M ++ [⟨K, N, S⟩], _, _, by simp; omega, by simp, by rw [List.length_append]; exact HG2.out, fun h => absurd h HNe.out, (fun u hu => by
              rcases List.mem_append.1 hu with hu | hu
              · exact HSm.out u hu
              · rw [List.mem_singleton] at hu; rw [hu]; exact hSs), HT7.out⟩
            case measure => simp [intOf]; omega
        · have HWi : Hid (withinO s = some M) := by
            unfold Hid
            rw [HW.out]
            by_cases h0 : inn.size = 0
            · rw [if_pos h0, List.eq_nil_of_length_eq_zero (HEm.out h0)]
            · rw [if_neg h0]
              have e : M.length = ws.length := by omega
              rw [← e]; exact HVal.out
          have HK2 : Hid (parseFS s = if factB kd M then some (kd, M) else none) := by unfold Hid; rw [HK.out, HWi.out]
          have two : (¬ M.length < ws.length) ∨ (M.length < ws.length ∧ inn.size = 0) := by omega
          obtain ⟨t0, t1, -, -⟩ := box2_cell T.bF
          obtain ⟨aM', cM', eM, hrdM, -, -, -⟩ := rdV_owns T.ow
          simp only [Value.slice.injEq] at eM
          obtain ⟨rfl, -, rfl⟩ := eM
          have hM2 : M.length ≤ 1048580 := by omega
          have hs2 : ∀ v ∈ M, v.S.size ≤ maxLen := fun v hv => by have := HSm.out v hv; unfold maxLen; omega
          have HFO := hide (specFactOk_any kd aM cM M wr hks hrdM hs2 hM2)
          clear hgo HW HVal HEm HSm hs2 hrdM T
          rcases two with hk | ⟨hk, h0⟩
          · have hx1 : ¬ ((M.length : Int) < (ws.length : Int)) := by omega
            have HR := hide HTr.out.bR
            obtain ⟨r0, r1, f0, f1⟩ := box2_cell HR.out
            go_wp2_with fail
            refine HFO.out.mono ?_
            rintro e w5 ⟨rfl, hb5⟩
            have T5 := HTr.out.keep hb5
            clear hb5 HTr HFO HR t0 t1 r0 r1 f0 f1
            obtain ⟨t0, t1, -, -⟩ := box2_cell T5.bF
            obtain ⟨r0, r1, f0, f1⟩ := box2_cell T5.bR
            cases hfb : factB kd M
            · have HN : Hid (parseFS s = none) := by unfold Hid; rw [HK2.out, hfb]; simp
              clear hfb
              go_wp2
              refine box2_post T5.bR (fun w4 h4 gr => ?_)
              clear r0 r1 f0 f1 t0 t1
              obtain ⟨c0, c1, -, -⟩ := box2_cell h4
              exact bodyPost_ret (v := .tuple #[.agg #[.string ⟨#[]⟩, .slice none 0 0], .bool false]) (by simp [results, Tryd.results4, go_sem, c0, c1]) rfl ⟨HNo.out HN.out _, below_set T5.bel gr (Nat.le_refl _)⟩
            · have HY : Hid (parseFS s = some (kd, M)) := by unfold Hid; rw [HK2.out, hfb]; simp
              clear hfb
              go_wp2
              refine box2_post T5.bR (fun w4 h4 gr => ?_)
              clear r0 r1 f0 f1 t0 t1
              obtain ⟨c0, c1, -, -⟩ := box2_cell h4
              have far := T5.far
              exact bodyPost_ret (v := .tuple #[.agg #[.string kd, .slice aM M.length cM], .bool true]) (by simp [results, Tryd.results4, go_sem, c0, c1]) rfl ⟨⟨kd, _, true, M, rfl, ownsM_lower (T5.ow.kept gr (by
                cases hv2 : Value.ownBlock (.slice aM M.length cM) with
                | none => exact .inl rfl
                | some k => right; intro e; have := (T5.ow.lt k hv2).1; cases e; omega)) (by omega), HY.out, by simp⟩, below_set T5.bel gr (Nat.le_refl _)⟩
          · have hb : inn.toList.isEmpty = true := emptyM_t h0
            have hx1 : (M.length : Int) < (ws.length : Int) := by omega
            clear h0
            have HR := hide HTr.out.bR
            obtain ⟨r0, r1, f0, f1⟩ := box2_cell HR.out
            go_wp2_with fail
            refine HFO.out.mono ?_
            rintro e w5 ⟨rfl, hb5⟩
            have T5 := HTr.out.keep hb5
            clear hb5 HTr HFO HR t0 t1 r0 r1 f0 f1
            obtain ⟨t0, t1, -, -⟩ := box2_cell T5.bF
            obtain ⟨r0, r1, f0, f1⟩ := box2_cell T5.bR
            cases hfb : factB kd M
            · have HN : Hid (parseFS s = none) := by unfold Hid; rw [HK2.out, hfb]; simp
              clear hfb
              go_wp2
              refine box2_post T5.bR (fun w4 h4 gr => ?_)
              clear r0 r1 f0 f1 t0 t1
              obtain ⟨c0, c1, -, -⟩ := box2_cell h4
              exact bodyPost_ret (v := .tuple #[.agg #[.string ⟨#[]⟩, .slice none 0 0], .bool false]) (by simp [results, Tryd.results4, go_sem, c0, c1]) rfl ⟨HNo.out HN.out _, below_set T5.bel gr (Nat.le_refl _)⟩
            · have HY : Hid (parseFS s = some (kd, M)) := by unfold Hid; rw [HK2.out, hfb]; simp
              clear hfb
              go_wp2
              refine box2_post T5.bR (fun w4 h4 gr => ?_)
              clear r0 r1 f0 f1 t0 t1
              obtain ⟨c0, c1, -, -⟩ := box2_cell h4
              have far := T5.far
              exact bodyPost_ret (v := .tuple #[.agg #[.string kd, .slice aM M.length cM], .bool true]) (by simp [results, Tryd.results4, go_sem, c0, c1]) rfl ⟨⟨kd, _, true, M, rfl, ownsM_lower (T5.ow.kept gr (by
                cases hv2 : Value.ownBlock (.slice aM M.length cM) with
                | none => exact .inl rfl
                | some k => right; intro e; have := (T5.ow.lt k hv2).1; cases e; omega)) (by omega), HY.out, by simp⟩, below_set T5.bel gr (Nat.le_refl _)⟩
    · have HN : Hid (parseFS s = none) := by
        unfold Hid parseFS twoB
        rw [dif_pos hs0, decide_eq_false h41]
        simp
      have k0 : (0 : Int) ≤ (s.size : Int) - 1 := by omega
      have k1 : (s.size : Int) - 1 < (s.size : Int) := by omega
      have k2 : (((s[s.size - 1]'(by omega)).toNat : Int) != 41) = true := by simp; omega
      go_wp2
      refine box2_post hR1 (fun w4 h4 gr => ?_)
      clear r0 r1 f0 f1
      obtain ⟨c0, c1, -, -⟩ := box2_cell h4
      exact bodyPost_ret (v := .tuple #[.agg #[.string ⟨#[]⟩, .slice none 0 0], .bool false]) (by simp [results, Tryd.results4, go_sem, c0, c1]) rfl ⟨HNo.out HN.out _, below_set b1 gr (by omega)⟩
  · have HN : Hid (parseFS s = none) := by
      unfold Hid parseFS twoB
      rw [decide_eq_false h2]
      simp
    have hq : (((splitE s 40).length : Int) != 2) = true := by simp; omega
    go_wp2
    refine box2_post hR1 (fun w4 h4 gr => ?_)
    clear r0 r1 f0 f1
    obtain ⟨c0, c1, -, -⟩ := box2_cell h4
    exact bodyPost_ret (v := .tuple #[.agg #[.string ⟨#[]⟩, .slice none 0 0], .bool false]) (by simp [results, Tryd.results4, go_sem, c0, c1]) rfl ⟨HNo.out HN.out _, below_set b1 gr (by omega)⟩
end Go.Proofs.YtfgigcdfmkfkjacDoor
/-
  Plainly: the pieces of a list between the bytes of one kind; the model's pieces are those.
-/
namespace Go.Proofs.YtfgigcdfmkfkjacDoor
open Go.RowKit
set_option linter.unusedVariables false

/-- the pieces of a list -/
def splP (c : UInt8) : List UInt8 → List (List UInt8)
  | [] => [[]]
  | x :: r => if x = c then [] :: splP c r else match splP c r with
    | [] => [[x]]
    | p :: q => (x :: p) :: q
theorem splP_ne (c : UInt8) : ∀ l, splP c l ≠ []
  | [] => by simp [splP]
  | x :: r => by
    unfold splP
    split
    · simp
    · split <;> simp
theorem splP_snoc (c : UInt8) (x : UInt8) : ∀ (t : List UInt8) (D : List (List UInt8)) (p : List UInt8), splP c t = D ++ [p] → splP c (t ++ [x]) = if x = c then D ++ [p, []] else D ++ [p ++ [x]]
  | [], D, p, h => by
    have hD : D = [] ∧ p = [] := by
      cases D with
      | nil => simp [splP] at h; exact ⟨rfl, h⟩
      | cons a b => simp [splP] at h
    obtain ⟨rfl, rfl⟩ := hD
    by_cases e : x = c
    · simp [splP, e]
    · simp [splP, e]
  | y :: t, D, p, h => by
    by_cases ey : y = c
    · have h1 : splP c (y :: t) = [] :: splP c t := by rw [splP, if_pos ey]
      rw [h1] at h
      cases D with
      | nil =>
        have := splP_ne c t
        simp at h
        exact absurd h.2 this
      | cons a b =>
        simp only [List.cons_append, List.cons.injEq] at h
        obtain ⟨rfl, h2⟩ := h
        have ih := splP_snoc c x t b p h2
        rw [List.cons_append, splP, if_pos ey, ih]
        split <;> rfl
    · cases ht : splP c t with
      | nil => exact absurd ht (splP_ne c t)
      | cons a b =>
        have h1 : splP c (y :: t) = (y :: a) :: b := by rw [splP, if_neg ey, ht]
        rw [h1] at h
        cases D with
        | nil =>
          simp only [List.nil_append, List.cons.injEq] at h
          obtain ⟨rfl, rfl⟩ := h
          have ih := splP_snoc c x t [] a (by rw [ht]; rfl)
          rw [List.cons_append, splP, if_neg ey, ih]
          by_cases e : x = c
          · simp [e]
          · simp [e]
        | cons d e =>
          simp only [List.cons_append, List.cons.injEq] at h
          obtain ⟨rfl, h2⟩ := h
          have ih := splP_snoc c x t (a :: e) p (by rw [ht, h2]; rfl)
          rw [List.cons_append, splP, if_neg ey, ih]
          by_cases e2 : x = c
          · simp [e2]
          · simp [e2]
theorem extL (s : ByteArray) (a b : Nat) : (s.extract a b).data.toList = (s.data.toList.take b).drop a := by
  rw [ByteArray.data_extract, Array.toList_extract, List.extract_eq_take_drop, List.drop_take]
theorem spF_pieces (s : ByteArray) (c : UInt8) : ∀ k, k ≤ s.size → splP c (s.data.toList.take k) = (spF s c.toNat k).1.map (·.data.toList) ++ [(s.data.toList.take k).drop (spF s c.toNat k).2]
  | 0, _ => by simp [spF, splP]
  | k + 1, hk => by
    have ih := spF_pieces s c k (by omega)
    have hl : s.data.toList.length = s.size := by rw [Array.length_toList]; rfl
    have hx : (s.data.toList[k]'(by omega)) = (s[k]'(by omega)) := by simp [ByteArray.getElem_eq_getElem_data]
    have hle := (spF_le s c.toNat k).1
    rw [List.take_succ_eq_append_getElem (by omega), splP_snoc c _ _ _ _ ih, hx]
    by_cases e : (s[k]'(by omega)) = c
    · rw [if_pos e, spF_hit (by omega) (by rw [e])]
      simp only [List.map_append, List.map_cons, List.map_nil, List.append_assoc, List.cons_append, List.nil_append]
      rw [extL]
      congr 2
      rw [List.drop_eq_nil_of_le]
      simp
      omega
    · have e2 : (s[k]'(by omega)).toNat ≠ c.toNat := fun h => e (UInt8.toNat_inj.1 h)
      rw [if_neg e, spF_miss (by omega) e2, List.drop_append_of_le_length (by rw [List.length_take]; omega)]
/-- the model's pieces are the list's -/
theorem splitE_pieces (s : ByteArray) (c : UInt8) : (splitE s c.toNat).map (·.data.toList) = splP c s.data.toList := by
  have hl : s.data.toList.length = s.size := by rw [Array.length_toList]; rfl
  have h := spF_pieces s c s.size (Nat.le_refl _)
  rw [← hl, List.take_length, hl] at h
  rw [h]
  unfold splitE
  rw [List.map_append, List.map_cons, List.map_nil, extL, ← hl, List.take_length]
end Go.Proofs.YtfgigcdfmkfkjacDoor
/-
  Plainly: the library's Cut and SplitN at one byte, by the pieces of a list.
-/
namespace Go.Proofs.YtfgigcdfmkfkjacDoor
set_option linter.unusedVariables false

theorem first_at (c : UInt8) : ∀ l : List UInt8, c ∉ l ∨ ∃ a r, l = a ++ c :: r ∧ c ∉ a
  | [] => .inl (by simp)
  | x :: t => by
    by_cases e : x = c
    · exact .inr ⟨[], t, by rw [e]; rfl, by simp⟩
    · rcases first_at c t with h | ⟨a, r, h1, h2⟩
      · exact .inl (by simp only [List.mem_cons, not_or]; exact ⟨fun h2 => e h2.symm, h⟩)
      · exact .inr ⟨x :: a, r, by rw [h1]; rfl, by simp only [List.mem_cons, not_or]; exact ⟨fun h3 => e h3.symm, h2⟩⟩
theorem index_at {c : UInt8} : ∀ {a r : List UInt8}, c ∉ a → Lib.index (a ++ c :: r) [c] = (a.length : Int)
  | [], r, _ => by simp [Lib.index, List.isPrefixOf]
  | x :: a, r, h => by
    simp only [List.mem_cons, not_or] at h
    have ih := index_at (r := r) h.2
    have hx : ¬ c = x := h.1
    rw [List.cons_append, Lib.index, if_neg (by simp [List.isPrefixOf, hx]), ih, if_neg (by simp)]
    simp
theorem index_no {c : UInt8} : ∀ {l : List UInt8}, c ∉ l → Lib.index l [c] = -1
  | [], _ => by simp [Lib.index]
  | x :: t, h => by
    simp only [List.mem_cons, not_or] at h
    have ih := index_no h.2
    have hx : ¬ c = x := h.1
    rw [Lib.index, if_neg (by simp [List.isPrefixOf, hx]), ih]
    rfl
theorem cut_at {c : UInt8} {a r : List UInt8} (h : c ∉ a) : Lib.cut (a ++ c :: r) [c] = (a, r, true) := by
  unfold Lib.cut
  rw [index_at h, if_pos (by omega)]
  simp
theorem cut_no {c : UInt8} {l : List UInt8} (h : c ∉ l) : Lib.cut l [c] = (l, [], false) := by
  unfold Lib.cut
  rw [index_no h, if_neg (by omega)]
theorem splP_no {c : UInt8} : ∀ {l : List UInt8}, c ∉ l → splP c l = [l]
  | [], _ => rfl
  | x :: t, h => by
    simp only [List.mem_cons, not_or] at h
    have hx : ¬ x = c := fun e => h.1 e.symm
    rw [splP, if_neg hx, splP_no h.2]
theorem splP_at {c : UInt8} : ∀ {a r : List UInt8}, c ∉ a → splP c (a ++ c :: r) = a :: splP c r
  | [], r, _ => by rw [List.nil_append, splP, if_pos rfl]
  | x :: a, r, h => by
    simp only [List.mem_cons, not_or] at h
    have hx : ¬ x = c := fun e => h.1 e.symm
    rw [List.cons_append, splP, if_neg hx, splP_at h.2]
/-- as many pieces as there are: all of them -/
theorem splitK_all {c : UInt8} : ∀ {k : Nat} {l : List UInt8}, (splP c l).length ≤ k + 1 → Lib.splitK [c] 0 k l = splP c l
  | 0, l, h => by
    rcases first_at c l with h1 | ⟨a, r, rfl, h2⟩
    · rw [splP_no h1]; rfl
    · rw [splP_at h2] at h
      have := splP_ne c r
      cases hq : splP c r with
      | nil => exact absurd hq this
      | cons p q => rw [hq] at h; simp at h
  | k + 1, l, h => by
    rcases first_at c l with h1 | ⟨a, r, rfl, h2⟩
    · rw [splP_no h1, Lib.splitK, index_no h1]; rfl
    · rw [splP_at h2] at h ⊢
      rw [Lib.splitK, index_at h2, if_neg (by simp)]
      have ih := splitK_all (k := k) (l := r) (by simpa using h)
      simp [ih]
/-- more pieces than that: as many as were asked for -/
theorem splitK_more {c : UInt8} : ∀ {k : Nat} {l : List UInt8}, k + 1 ≤ (splP c l).length → (Lib.splitK [c] 0 k l).length = k + 1
  | 0, l, h => rfl
  | k + 1, l, h => by
    rcases first_at c l with h1 | ⟨a, r, rfl, h2⟩
    · rw [splP_no h1] at h; simp at h
    · rw [splP_at h2] at h
      rw [Lib.splitK, index_at h2, if_neg (by simp)]
      have ih := splitK_more (k := k) (l := r) (by simpa using h)
      simp [ih]
/-- what was in the list is in some piece -/
theorem splitK_mem {c x : UInt8} (hx : x ≠ c) : ∀ {k : Nat} {l : List UInt8}, x ∈ l → ∃ p ∈ Lib.splitK [c] 0 k l, x ∈ p
  | 0, l, h => ⟨l, by simp [Lib.splitK], h⟩
  | k + 1, l, h => by
    rcases first_at c l with h1 | ⟨a, r, rfl, h2⟩
    · exact ⟨l, by rw [Lib.splitK, index_no h1]; simp, h⟩
    · rw [Lib.splitK, index_at h2, if_neg (by simp)]
      simp only [List.mem_append, List.mem_cons] at h
      rcases h with h | h | h
      · exact ⟨a, by simp, h⟩
      · exact absurd h hx
      · obtain ⟨p, hp, hxp⟩ := splitK_mem hx (k := k) h
        exact ⟨p, by simp [hp], hxp⟩
end Go.Proofs.YtfgigcdfmkfkjacDoor
/-
  Rows of bytes: what a slice of bytes reads as (Rd), what a call's own row holds (vals), and the contracts of the laws' own helpers on them: toByteS copies, eqByteS tells whether two are the same.
-/
namespace Go.Proofs.YtfgigcdfmkfkjacDoor
open Go.RowKit
set_option linter.unusedVariables false

theorem Tryd.info5 : (Tryd.prog.info? 5).map (fun i => (i.zero, i.size, i.bytes)) = some (some (.int .u8 0), 1, 1) := by kernel_rfl

/-- the i-th byte as a number -/
def byteAt (bs : List UInt8) (i : Nat) : Int := ((bs.getD i 0).toNat : Int)
theorem byteAt_lo (bs : List UInt8) (i : Nat) : 0 ≤ byteAt bs i := by unfold byteAt; omega
theorem byteAt_hi (bs : List UInt8) (i : Nat) : byteAt bs i ≤ 255 := by
  unfold byteAt; have := (bs.getD i 0).toNat_lt; omega

def vals (bs : List UInt8) : List Value := bs.map (fun b => Value.int .u8 (b.toNat : Int))
theorem vals_length (bs : List UInt8) : (vals bs).length = bs.length := by simp [vals]
theorem vals_get {bs : List UInt8} {i : Nat} (h : i < bs.length) : (vals bs)[i]? = some (.int .u8 (byteAt bs i)) := by
  unfold vals byteAt
  rw [List.getElem?_map, List.getElem?_eq_getElem h]
  simp [List.getD, h]
theorem vals_append (a b : List UInt8) : vals (a ++ b) = vals a ++ vals b := by simp [vals]

/-- what the slice at 'a' reads as -/
def Rd (w : World) (a : Option Addr) (bs : List UInt8) : Prop :=
  ∀ i, i < bs.length → ∃ b off, a = some ⟨b, off, none⟩ ∧ w.cell? ⟨b, off + i, none⟩ = some (.int .u8 (byteAt bs i))

theorem Rd.open {w : World} {a : Option Addr} {bs : List UInt8} (h : Rd w a bs) (hp : 0 < bs.length) :
    ∃ b off, a = some ⟨b, off, none⟩ ∧ b < w.heap.size ∧ ∀ i, i < bs.length → w.cell? ⟨b, off + i, none⟩ = some (.int .u8 (byteAt bs i)) := by
  obtain ⟨b, off, rfl, h0⟩ := h 0 hp
  refine ⟨b, off, rfl, World.block_lt_of_cell? w _ h0, fun i hi => ?_⟩
  obtain ⟨b2, off2, e, h1⟩ := h i hi
  simp only [Option.some.injEq, Addr.mk.injEq] at e
  rw [e.1, e.2.1]; exact h1

theorem Rd.below {w w' : World} {a : Option Addr} {bs : List UInt8} (h : Rd w a bs) (hb : Below w.heap.size w w') : Rd w' a bs := by
  intro i hi
  obtain ⟨b, off, e, hc⟩ := h i hi
  exact ⟨b, off, e, by rw [hb.cell (p := ⟨b, off + i, none⟩) (World.block_lt_of_cell? w _ hc)]; exact hc⟩

theorem Rd.heap {w w' : World} {a : Option Addr} {bs : List UInt8} (h : Rd w a bs) (hb : w'.heap = w.heap) : Rd w' a bs := by
  intro i hi
  obtain ⟨b, off, e, hc⟩ := h i hi
  exact ⟨b, off, e, by rw [← hc]; simp [World.cell?, hb]⟩

/-- what a call's own row of bytes reads as -/
theorem rd_owns {w : World} {base n : Nat} {v : Value} {bs : List UInt8} (h : w.ownsRow base 5 1 v n (vals bs)) :
    ∃ a cap, v = .slice a bs.length cap ∧ Rd w a bs ∧ n = bs.length := by
  have hn : n = bs.length := by have := h.1; rw [vals_length] at this; omega
  subst hn
  rcases h.2 with ⟨rfl, h0⟩ | ⟨g, cap, cur, rfl, hb, hg, hnc, hcm, hsz, htake⟩
  · exact ⟨none, 0, by rw [h0], fun i hi => by omega, rfl⟩
  · refine ⟨_, cap, rfl, fun i hi => ⟨g, 0, rfl, ?_⟩, rfl⟩
    have := h.cellAt i (by omega)
    rw [vals_get hi] at this
    rw [← this]; simp

/-- the row of bytes that came in -/
def IsRow (k : IntKind) (w : World) (a : Option Addr) (len cap : Nat) (zs : List Int) : Prop :=
  (a = none ∧ len = 0 ∧ cap = 0 ∧ zs = []) ∨
  ∃ x, a = some x ∧ len ≤ cap ∧ cap ≤ maxLen ∧ zs.length = cap ∧ (∀ i, i < zs.length → w.cell? (x.add i) = some (.int k (zs.getD i 0))) ∧ ∀ n ∈ zs, (Lit.int k n).wf = true

theorem isRow_len {k : IntKind} {w : World} {a : Option Addr} {len cap : Nat} {zs : List Int} (h : IsRow k w a len cap zs) : len ≤ maxLen := by
  rcases h with ⟨rfl, rfl, rfl, rfl⟩ | ⟨x, rfl, hl, hm, hz, hcell, hwz⟩
  · exact Nat.zero_le _
  · exact Nat.le_trans hl hm
theorem below_drewN (B : Nat) (w : World) (n : Nat) : Below B w (w.drewN n) := ⟨rfl, rfl, rfl, Nat.le_refl _, fun _ _ => rfl⟩

theorem rd_row {w : World} {a : Option Addr} {len cap : Nat} {zs : List Int} (h : IsRow .u8 w a len cap zs) :
    ∃ bs : List UInt8, bs.length = len ∧ Rd w a bs := by
  rcases h with ⟨rfl, rfl, rfl, rfl⟩ | ⟨x, rfl, hl, hm, hz, hcell, hwz⟩
  · exact ⟨[], rfl, fun i hi => by simp at hi⟩
  · refine ⟨(zs.take len).map (fun n => UInt8.ofNat n.toNat), by simp; omega, fun i hi => ?_⟩
    have hi2 : i < len := by simp at hi; omega
    obtain ⟨b, off, spot⟩ := x
    have hc := hcell i (by omega)
    have hs : spot = none := by
      have h0 := hcell 0 (by omega)
      simpa [Addr.add] using World.cell?_spot h0
    subst hs
    refine ⟨b, off, rfl, ?_⟩
    have e : (⟨b, off, none⟩ : Addr).add i = ⟨b, off + i, none⟩ := Addr.add_lit _ _ _
    rw [e] at hc
    rw [hc]
    have hiz : i < zs.length := by omega
    have hw := hwz zs[i] (List.getElem_mem hiz)
    have hb := bounds_u8 hw
    unfold byteAt
    simp [List.getD, hiz, hi2]
    omega

theorem rd_cells {w : World} {p : Addr} {bs : List UInt8} (hr : Rd w (some p) bs) : ∀ j u, (vals bs)[j]? = some u → w.cell? (p.add j) = some u := by
  intro j u hj
  have hl : j < bs.length := by have := (List.getElem?_eq_some_iff.1 hj).1; rw [vals_length] at this; exact this
  rw [vals_get hl] at hj
  obtain ⟨b, off, e, hc⟩ := hr j hl
  simp only [Option.some.injEq] at e
  subst e
  rw [Addr.add_lit, hc]; exact hj

/-- a row of the call's own, at hand for the readers -/
theorem rd_owns_cap {w : World} {base n : Nat} {v : Value} {bs : List UInt8} (h : w.ownsRow base 5 1 v n (vals bs)) :
    ∃ a cap, v = .slice a bs.length cap ∧ Rd w a bs ∧ bs.length ≤ cap ∧ (a = none → bs.length = 0 ∧ cap = 0) := by
  have hn : n = bs.length := by have := h.1; rw [vals_length] at this; omega
  subst hn
  obtain ⟨a, cap, e, hr, -⟩ := rd_owns h
  rcases h.2 with ⟨h1, h0⟩ | ⟨g, cap', cur, h1, hb, hg, hnc, hcm, hsz, htake⟩
  · rw [e] at h1
    simp only [Value.slice.injEq] at h1
    exact ⟨a, cap, e, hr, by omega, fun _ => ⟨h0, h1.2.2⟩⟩
  · rw [e] at h1
    simp only [Value.slice.injEq] at h1
    exact ⟨a, cap, e, hr, by omega, fun hh => by rw [h1.1] at hh; cases hh⟩

end Go.Proofs.YtfgigcdfmkfkjacDoor
/-
  Plain facts on bits of an int that is not below 0.
-/
namespace Go.Proofs.YtfgigcdfmkfkjacDoor
open Go.RowKit
set_option linter.unusedVariables false

theorem i64_xor_nat (a b : Nat) (ha : a < 9223372036854775808) (hb : b < 9223372036854775808) : bits .xor .i64 (a : Int) (b : Int) = ((a ^^^ b : Nat) : Int) := by
  have hx : a ^^^ b < 2 ^ 63 := Nat.xor_lt_two_pow (by omega) (by omega)
  show IntKind.i64.wrap ((BitVec.ofInt 64 (a : Int) ^^^ BitVec.ofInt 64 (b : Int)).toNat : Int) = _
  rw [BitVec.toNat_xor, ofInt_u64 a (by omega), ofInt_u64 b (by omega)]
  exact IntWalk.i64_in _ (by omega)
theorem i64_and_nat (a b : Nat) (ha : a < 9223372036854775808) (hb : b < 9223372036854775808) : bits .and .i64 (a : Int) (b : Int) = ((a &&& b : Nat) : Int) := by
  have hx : a &&& b < 2 ^ 63 := Nat.and_lt_two_pow _ (by omega)
  show IntKind.i64.wrap ((BitVec.ofInt 64 (a : Int) &&& BitVec.ofInt 64 (b : Int)).toNat : Int) = _
  rw [BitVec.toNat_and, ofInt_u64 a (by omega), ofInt_u64 b (by omega)]
  exact IntWalk.i64_in _ (by omega)
theorem i64_or_nat (a b : Nat) (ha : a < 9223372036854775808) (hb : b < 9223372036854775808) : bits .or .i64 (a : Int) (b : Int) = ((a ||| b : Nat) : Int) := by
  have hx : a ||| b < 2 ^ 63 := Nat.or_lt_two_pow (by omega) (by omega)
  show IntKind.i64.wrap ((BitVec.ofInt 64 (a : Int) ||| BitVec.ofInt 64 (b : Int)).toNat : Int) = _
  rw [BitVec.toNat_or, ofInt_u64 a (by omega), ofInt_u64 b (by omega)]
  exact IntWalk.i64_in _ (by omega)

theorem u8_and127 (c : Int) (h0 : 0 ≤ c) (h1 : c ≤ 255) : bits .and .u8 c 127 = c % 128 := by
  have := u8_and c 127 h0 (by omega) (by omega) (by omega)
  rw [this, show (127 : Int).toNat = 127 from rfl, nat_mask7]
  omega

/-- the sum's step on one bit -/
def cstep (x : Nat) : Nat := if x % 2 = 1 then (x / 2) ^^^ 2197175160 else x / 2
def cstepN : Nat → Nat → Nat
  | 0, x => x
  | k + 1, x => cstep (cstepN k x)
def cbyte (x c : Nat) : Nat := cstepN 8 (x ^^^ c)
theorem cstep_lt {x : Nat} (h : x < 4294967296) : cstep x < 4294967296 := by
  unfold cstep
  split
  · exact Nat.xor_lt_two_pow (n := 32) (by omega) (by omega)
  · omega
theorem cstepN_lt {x : Nat} (h : x < 4294967296) : ∀ k, cstepN k x < 4294967296
  | 0 => h
  | k + 1 => cstep_lt (cstepN_lt h k)
theorem cxor_lt {x c : Nat} (h : x < 4294967296) (hc : c < 4294967296) : x ^^^ c < 4294967296 := Nat.xor_lt_two_pow (n := 32) (by omega) (by omega)
theorem cbyte_lt {x c : Nat} (h : x < 4294967296) (hc : c < 256) : cbyte x c < 4294967296 := cstepN_lt (cxor_lt h (by omega)) 8
end Go.Proofs.YtfgigcdfmkfkjacDoor
/-
  Numbers in bytes, plainly: what GetNum reads (numR) and what PutNum writes (encN), and that they are inverse. No program is spoken of here.
-/
namespace Go.Proofs.YtfgigcdfmkfkjacDoor
open Go.RowKit
set_option linter.unusedVariables false

def accN (bs : List UInt8) (A : Nat) : Nat → Nat
  | 0 => 0
  | k + 1 => accN bs A k + (byteAt bs (A + k)).toNat % 128 * 128 ^ k
theorem accN_lt (bs : List UInt8) (A : Nat) : ∀ k, accN bs A k < 128 ^ k
  | 0 => by show 0 < 1; omega
  | k + 1 => by
    have h := accN_lt bs A k
    show accN bs A k + (byteAt bs (A + k)).toNat % 128 * 128 ^ k < 128 ^ (k + 1)
    have h2 : (byteAt bs (A + k)).toNat % 128 ≤ 127 := by omega
    have h3 := Nat.mul_le_mul_right (128 ^ k) h2
    rw [Nat.pow_succ]
    omega
/-- where the last group of a number stands: the first byte below 128, at most five bytes on -/
def scanN (bs : List UInt8) (A : Nat) : Nat → Nat → Option Nat
  | 0, _ => none
  | f + 1, k => if A + k < bs.length then (if byteAt bs (A + k) < 128 then some k else scanN bs A f (k + 1)) else none
def unfN (m : Nat) : Int := if m % 2 = 1 then -((m / 2 : Nat) : Int) - 1 else ((m / 2 : Nat) : Int)
/-- what GetNum answers -/
def numR (bs : List UInt8) (at' : Int) : Int × Int × Bool :=
  if at' < 0 then (0, 0, false)
  else match scanN bs at'.toNat 5 0 with
    | none => (0, 0, false)
    | some k => if (k ≠ 0 ∧ byteAt bs (at'.toNat + k) = 0) ∨ 2000000000 < accN bs at'.toNat (k + 1) then (0, 0, false)
      else (unfN (accN bs at'.toNat (k + 1)), at' + k + 1, true)

theorem scanN_out {bs : List UInt8} {A : Nat} (h : bs.length ≤ A) (f k : Nat) : scanN bs A f k = none := by
  cases f with
  | zero => rfl
  | succ f => unfold scanN; rw [if_neg (by omega)]
theorem or_acc {a x k : Nat} (ha : a < 128 ^ k) : a ||| (x * 128 ^ k) = a + x * 128 ^ k := by
  have e : (128 : Nat) ^ k = 2 ^ (7 * k) := by rw [Nat.pow_mul]
  rw [e] at ha ⊢
  rw [Nat.or_comm, Nat.add_comm]
  exact nat_join (7 * k) (x * 2 ^ (7 * k)) a (Nat.mul_mod_left _ _) ha
theorem pow128_le {k : Nat} (h : k ≤ 5) : 128 ^ k ≤ 34359738368 := by
  have : (128 : Nat) ^ k ≤ 128 ^ 5 := Nat.pow_le_pow_right (by omega) h
  exact this
theorem or_step {m k : Nat} {c : Int} (hm : m < 128 ^ k) (hk : k < 5) (h0 : 0 ≤ c) (h1 : c ≤ 255) :
    bits .or .i64 (m : Int) (wrap64 (c % 128 * 2 ^ (7 * k))) = ((m + c.toNat % 128 * 128 ^ k : Nat) : Int) := by
  obtain ⟨d, rfl⟩ := Int.eq_ofNat_of_zero_le h0
  have hp := pow128_le (k := k) (by omega)
  have e : ((d : Int) % 128 * 2 ^ (7 * k)) = ((d % 128 * 128 ^ k : Nat) : Int) := by
    have e2 : ((2 : Int) ^ (7 * k)) = ((128 ^ k : Nat) : Int) := by
      rw [show (128 : Nat) ^ k = 2 ^ (7 * k) by rw [Nat.pow_mul]]
      exact (Int.natCast_pow 2 (7 * k)).symm
    rw [e2, Int.natCast_mul]
    rfl
  have hb : d % 128 * 128 ^ k ≤ 127 * 34359738368 := Nat.mul_le_mul (by omega) hp
  rw [e, IntWalk.wrap64_in _ (by omega), i64_or_nat _ _ (by omega) (by omega), or_acc hm]
  simp
theorem scanN_end {bs : List UInt8} {A k : Nat} (h5 : k < 5) (h : ¬ A + k < bs.length) : scanN bs A (5 - k) k = none := by
  rw [show 5 - k = (4 - k) + 1 by omega]
  unfold scanN
  rw [if_neg h]
theorem scanN_last {bs : List UInt8} {A k : Nat} (h5 : k < 5) (h : A + k < bs.length) (hc : byteAt bs (A + k) < 128) : scanN bs A (5 - k) k = some k := by
  rw [show 5 - k = (4 - k) + 1 by omega]
  unfold scanN
  rw [if_pos h, if_pos hc]
theorem scanN_more {bs : List UInt8} {A k : Nat} (h5 : k < 5) (h : A + k < bs.length) (hc : ¬ byteAt bs (A + k) < 128) : scanN bs A (5 - k) k = scanN bs A (5 - (k + 1)) (k + 1) := by
  rw [show 5 - k = (5 - (k + 1)) + 1 by omega]
  rw [scanN, if_pos h, if_neg hc]
theorem scanN_ge {bs : List UInt8} {A : Nat} : ∀ f k r, scanN bs A f k = some r → k ≤ r ∧ r < k + f
  | 0, k, r, h => by simp [scanN] at h
  | f + 1, k, r, h => by
    unfold scanN at h
    split at h
    · split at h
      · simp at h; omega
      · have := scanN_ge f (k + 1) r h; omega
    · simp at h
theorem scanN_lt {bs : List UInt8} {A r : Nat} (h : scanN bs A 5 0 = some r) : r < 5 := by have := scanN_ge 5 0 r h; omega
theorem numR_none {bs : List UInt8} {A : Nat} (h : scanN bs A 5 0 = none) : numR bs (A : Int) = (0, 0, false) := by
  unfold numR
  rw [if_neg (by omega), Int.toNat_natCast, h]
theorem numR_some {bs : List UInt8} {A k : Nat} (h : scanN bs A 5 0 = some k) : numR bs (A : Int) = if (k ≠ 0 ∧ byteAt bs (A + k) = 0) ∨ 2000000000 < accN bs A (k + 1) then (0, 0, false) else (unfN (accN bs A (k + 1)), (A : Int) + k + 1, true) := by
  unfold numR
  rw [if_neg (by omega), Int.toNat_natCast, h]
theorem numR_neg {bs : List UInt8} {a : Int} (h : a < 0) : numR bs a = (0, 0, false) := by
  unfold numR
  rw [if_pos h]
theorem numR_past {bs : List UInt8} {a : Int} (h : (bs.length : Int) ≤ a) : numR bs a = (0, 0, false) := by
  obtain ⟨A, rfl⟩ := Int.eq_ofNat_of_zero_le (show 0 ≤ a by omega)
  exact numR_none (scanN_out (by omega) _ _)
theorem unfN_odd {m : Nat} (h : m % 2 = 1) : unfN m = -((m : Int) / 2) - 1 := by unfold unfN; rw [if_pos h]; omega
theorem unfN_even {m : Nat} (h : ¬ m % 2 = 1) : unfN m = (m : Int) / 2 := by unfold unfN; rw [if_neg h]; omega
theorem unfN_in (m : Nat) : inB (unfN m) (-1000000000) 1000000000 = !decide (2000000000 < m) := by
  by_cases h : m % 2 = 1
  · rw [unfN_odd h]
    by_cases h2 : 2000000000 < m
    · rw [inB_f (by omega)]; simp [h2]
    · rw [inB_t (by omega)]; simp [h2]
  · rw [unfN_even h]
    by_cases h2 : 2000000000 < m
    · rw [inB_f (by omega)]; simp [h2]
    · rw [inB_t (by omega)]; simp [h2]
theorem ret_num {bs : List UInt8} {A : Nat} {x y : Int} {z : Bool} (h : numR bs (A : Int) = (x, y, z)) :
    Ending.returned (.tuple #[.int .i64 x, .int .i64 y, .bool z]) = .returned (.tuple #[.int .i64 (numR bs (A : Int)).1, .int .i64 (numR bs (A : Int)).2.1, .bool (numR bs (A : Int)).2.2]) := by rw [h]

/-- what the groups at a place hold: the number as it was folded, the place behind, whether the form is the shortest -/
def grpR (bs : List UInt8) (A : Nat) : Int × Int × Bool :=
  match scanN bs A 5 0 with
  | none => (0, 0, false)
  | some k => (((accN bs A (k + 1) : Nat) : Int), (A : Int) + k + 1, k == 0 || byteAt bs (A + k) != 0)
theorem grpR_none {bs : List UInt8} {A : Nat} (h : scanN bs A 5 0 = none) : grpR bs A = (0, 0, false) := by unfold grpR; rw [h]
theorem grpR_some {bs : List UInt8} {A k : Nat} (h : scanN bs A 5 0 = some k) : grpR bs A = (((accN bs A (k + 1) : Nat) : Int), (A : Int) + k + 1, k == 0 || byteAt bs (A + k) != 0) := by unfold grpR; rw [h]
theorem ret_grp {bs : List UInt8} {A : Nat} {x y : Int} {z : Bool} (h : grpR bs A = (x, y, z)) :
    Ending.returned (.tuple #[.int .i64 x, .int .i64 y, .bool z]) = .returned (.tuple #[.int .i64 (grpR bs A).1, .int .i64 (grpR bs A).2.1, .bool (grpR bs A).2.2]) := by rw [h]
/-- the number out of its groups -/
theorem numR_grp (bs : List UInt8) (A : Nat) : ∃ M : Nat, M < 34359738368 ∧ (grpR bs A).1 = (M : Int) ∧
    numR bs (A : Int) = if (grpR bs A).2.2 = false ∨ 2000000000 < M then (0, 0, false) else (unfN M, (grpR bs A).2.1, true) := by
  cases h : scanN bs A 5 0 with
  | none => exact ⟨0, by omega, by rw [grpR_none h]; rfl, by rw [numR_none h, grpR_none h]; simp⟩
  | some k =>
    have hk : k < 5 := scanN_lt h
    have hlt := accN_lt bs A (k + 1)
    have hp := pow128_le (k := k + 1) (by omega)
    refine ⟨accN bs A (k + 1), by omega, by rw [grpR_some h], ?_⟩
    rw [numR_some h, grpR_some h]
    by_cases h1 : k = 0 <;> by_cases h2 : byteAt bs (A + k) = 0 <;> by_cases h3 : 2000000000 < accN bs A (k + 1) <;> simp [h1, h2, h3]

theorem scanN_some {bs : List UInt8} {A : Nat} : ∀ f k r, scanN bs A f k = some r → A + r < bs.length
  | 0, k, r, h => by simp [scanN] at h
  | f + 1, k, r, h => by
    unfold scanN at h
    split at h
    · split at h
      · simp at h; omega
      · exact scanN_some f (k + 1) r h
    · simp at h
/-- a number that was read lies within the bytes -/
theorem numR_true {bs : List UInt8} {x : Int} (h : (numR bs x).2.2 = true) : 0 ≤ x ∧ x < (numR bs x).2.1 ∧ (numR bs x).2.1 ≤ bs.length := by
  by_cases h0 : x < 0
  · rw [numR_neg h0] at h; cases h
  · obtain ⟨A, rfl⟩ := Int.eq_ofNat_of_zero_le (show 0 ≤ x by omega)
    cases hs : scanN bs A 5 0 with
    | none => rw [numR_none hs] at h; cases h
    | some k =>
      rw [numR_some hs] at h ⊢
      split at h
      · cases h
      · rename_i hc
        rw [if_neg hc]
        have := scanN_some 5 0 k hs
        simp only
        omega
end Go.Proofs.YtfgigcdfmkfkjacDoor
/-
  Numbers as bytes, plainly: what PutNum writes behind. No program is spoken of here.
-/
namespace Go.Proofs.YtfgigcdfmkfkjacDoor
open Go.RowKit
set_option linter.unusedVariables false

/-- the number as it is kept: no further out than the most either way -/
def clampN (n : Int) : Int := if n < -1000000000 then -1000000000 else if 1000000000 < n then 1000000000 else n
def foldN (n : Int) : Nat := if n < 0 then (-2 * n - 1).toNat else (2 * n).toNat
/-- its groups of seven bits, the lowest first -/
def encG : Nat → Nat → List UInt8
  | 0, m => [UInt8.ofNat m]
  | f + 1, m => if m < 128 then [UInt8.ofNat m] else UInt8.ofNat (m % 128 + 128) :: encG f (m / 128)
def encN (n : Int) : List UInt8 := encG 5 (foldN (clampN n))

theorem clampN_in (n : Int) : -1000000000 ≤ clampN n ∧ clampN n ≤ 1000000000 := by unfold clampN; split; omega; split <;> omega
theorem foldN_le {n : Int} (h : -1000000000 ≤ n ∧ n ≤ 1000000000) : foldN n ≤ 2000000000 := by unfold foldN; split <;> omega
theorem foldN_neg {n : Int} (h : n < 0) : ((foldN n : Nat) : Int) = -2 * n - 1 := by unfold foldN; rw [if_pos h]; omega
theorem foldN_pos {n : Int} (h : ¬ n < 0) : ((foldN n : Nat) : Int) = 2 * n := by unfold foldN; rw [if_neg h]; omega
theorem fold_cases (n : Int) : (1000000000 < n ∧ ((foldN (clampN n) : Nat) : Int) = 2000000000) ∨ (n < -1000000000 ∧ ((foldN (clampN n) : Nat) : Int) = 1999999999) ∨
    ((-1000000000 ≤ n ∧ n < 0) ∧ ((foldN (clampN n) : Nat) : Int) = -2 * n - 1) ∨ ((0 ≤ n ∧ n ≤ 1000000000) ∧ ((foldN (clampN n) : Nat) : Int) = 2 * n) := by
  unfold clampN
  split
  · rw [foldN_neg (by omega)]; omega
  · split
    · rw [foldN_pos (by omega)]; omega
    · by_cases h : n < 0
      · rw [foldN_neg h]; omega
      · rw [foldN_pos h]; omega
theorem encG_length : ∀ f m, (encG f m).length ≤ f + 1
  | 0, m => by simp [encG]
  | f + 1, m => by
    unfold encG
    split
    · simp
    · have := encG_length f (m / 128); simp; omega
theorem encN_length (n : Int) : (encN n).length ≤ 6 := encG_length 5 _
theorem encG_small {f m : Nat} (h : m < 128) : encG f m = [UInt8.ofNat m] := by
  cases f with
  | zero => rfl
  | succ f => unfold encG; rw [if_pos h]
theorem encG_big {f m : Nat} (h : ¬ m < 128) : encG (f + 1) m = UInt8.ofNat (m % 128 + 128) :: encG f (m / 128) := by
  rw [encG, if_neg h]
theorem enc_step {f m : Nat} (hb : ¬ m < 128) (hm : m < 128 ^ f) : ∃ g, f = g + 1 ∧ m / 128 < 128 ^ g ∧ encG f m = UInt8.ofNat (m % 128 + 128) :: encG g (m / 128) := by
  cases f with
  | zero => simp at hm; omega
  | succ g =>
    refine ⟨g, rfl, ?_, encG_big hb⟩
    rw [Nat.pow_succ] at hm
    exact Nat.div_lt_of_lt_mul (by omega)
theorem or128 (m : Nat) : bits .or .i64 ((m : Int) % 128) 128 = (m : Int) % 128 + 128 := by
  have h := i64_or_nat (m % 128) 128 (by omega) (by omega)
  have h2 : m % 128 ||| 128 = m % 128 + 128 := by
    rw [Nat.or_comm, Nat.add_comm]
    exact nat_join 7 128 (m % 128) (by decide) (by omega)
  rw [h2] at h
  have e : (((m % 128 : Nat) : Int)) = (m : Int) % 128 := by omega
  rw [e] at h
  rw [show ((m % 128 + 128 : Nat) : Int) = (m : Int) % 128 + 128 by omega] at h
  exact h
theorem vals_cont (m : Nat) : [Value.int .u8 ((m : Int) % 128 + 128)] = vals [UInt8.ofNat (m % 128 + 128)] := by
  simp [vals]; omega
theorem vals_last {m : Nat} (h : m < 128) : [Value.int .u8 (m : Int)] = vals [UInt8.ofNat m] := by
  simp [vals]; omega
theorem one_cell (v : Value) (w : World) (e : TypeId) : ∀ j u, [v][j]? = some u → (w.alloc (.cells #[v] e)).cell? ((⟨w.heap.size, 0, none⟩ : Addr).add j) = some u := by
  intro j u hj
  match j, hj with
  | 0, hj => simp at hj; subst hj; simp [Addr.add]
theorem vals_one (bs : List UInt8) : ∀ u ∈ vals bs, u.oneCell' = true := by
  intro u hu
  obtain ⟨_, _, rfl⟩ := List.mem_map.1 hu
  rfl
theorem pre_length {pre r : List UInt8} {n : Int} (h : pre ++ r = encN n) : pre.length ≤ 6 := by
  have := encN_length n; rw [← h] at this; simp at this; omega
theorem encG_pos : ∀ f m, 0 < (encG f m).length
  | 0, m => by simp [encG]
  | f + 1, m => by unfold encG; split <;> simp
theorem encN_pos (n : Int) : 0 < (encN n).length := encG_pos _ _
end Go.Proofs.YtfgigcdfmkfkjacDoor
/-
  Texts in bytes, plainly: what GetText reads. And a slice of bytes turned into a text.
-/
namespace Go.Proofs.YtfgigcdfmkfkjacDoor
open Go.RowKit
set_option linter.unusedVariables false

/-- what GetText answers -/
def textR (bs : List UInt8) (x : Int) : ByteArray × Int × Bool :=
  if (numR bs x).2.2 = false ∨ (numR bs x).1 < 0 ∨ (bs.length : Int) - (numR bs x).2.1 < (numR bs x).1 then (ByteArray.empty, 0, false)
  else (⟨((bs.drop (numR bs x).2.1.toNat).take (numR bs x).1.toNat).toArray⟩, (numR bs x).2.1 + (numR bs x).1, true)
theorem textR_no {bs : List UInt8} {x : Int} (h : (numR bs x).2.2 = false ∨ (numR bs x).1 < 0 ∨ (bs.length : Int) - (numR bs x).2.1 < (numR bs x).1) : textR bs x = (ByteArray.empty, 0, false) := by
  unfold textR; rw [if_pos h]
theorem textR_yes (bs : List UInt8) (x : Int) (P N : Nat) (h : ¬ ((numR bs x).2.2 = false ∨ (numR bs x).1 < 0 ∨ (bs.length : Int) - (numR bs x).2.1 < (numR bs x).1)) (hP : (numR bs x).2.1 = P) (hN : (numR bs x).1 = N) :
    textR bs x = (⟨((bs.drop P).take N).toArray⟩, (P : Int) + N, true) := by
  unfold textR; rw [if_neg h, hP, hN]; rfl
theorem ret_text {bs : List UInt8} {x : Int} {s : ByteArray} {y : Int} {z : Bool} (h : textR bs x = (s, y, z)) :
    Ending.returned (.tuple #[.string s, .int .i64 y, .bool z]) = .returned (.tuple #[.string (textR bs x).1, .int .i64 (textR bs x).2.1, .bool (textR bs x).2.2]) := by rw [h]

theorem conv_part {b off P N : Nat} {bs : List UInt8} {w : World} (h : P + N ≤ bs.length) (hc : ∀ i, i < bs.length → w.cell? ⟨b, off + i, none⟩ = some (.int .u8 (byteAt bs i))) (c' : Nat) :
    (convert 63 9 (.slice (some ⟨b, off + P, none⟩) N c')).run Tryd.prog w = .ok (.string ⟨((bs.drop P).take N).toArray⟩) w := by
  have hl : ((bs.drop P).take N).length = N := by simp; omega
  have := run_convert_bytes_back (P := Tryd.prog) w 63 9 5 ⟨b, off + P, none⟩ c' ((bs.drop P).take N) Tryd.underlying63 Tryd.underlying5 Tryd.underlying9 (fun j hj => by
    have hj2 : j < N := by omega
    rw [Addr.add_lit, Nat.add_assoc, hc (P + j) (by omega)]
    unfold byteAt
    simp [List.getD, show P + j < bs.length by omega])
  rw [hl] at this
  exact this

end Go.Proofs.YtfgigcdfmkfkjacDoor
/-
  Numbers and texts come back of their bytes, plainly: what numR and textR read behind what encN and encT write. No program is spoken of here.
-/
namespace Go.Proofs.YtfgigcdfmkfkjacDoor
open Go.RowKit
set_option linter.unusedVariables false

theorem encG_fit : ∀ f m g, m < 128 ^ (g + 1) → (encG f m).length ≤ g + 1
  | 0, m, g, h => by simp [encG]
  | f + 1, m, 0, h => by simp at h; rw [encG_small (by omega)]; simp
  | f + 1, m, g + 1, h => by
    by_cases hs : m < 128
    · rw [encG_small hs]; simp
    · rw [encG_big hs]
      have := encG_fit f (m / 128) g (by rw [Nat.pow_succ] at h; exact Nat.div_lt_of_lt_mul (by omega))
      simp; omega
theorem byteAt_ofNat {m : Nat} (h : m < 256) (r : List UInt8) : byteAt (UInt8.ofNat m :: r) 0 = (m : Int) := by
  unfold byteAt; simp [List.getD]; omega
theorem byteAt_cons (c : UInt8) (r : List UInt8) (i : Nat) : byteAt (c :: r) (i + 1) = byteAt r i := by
  unfold byteAt; simp [List.getD]
theorem byteAt_append (a b : List UInt8) (i : Nat) : byteAt (a ++ b) (a.length + i) = byteAt b i := by
  unfold byteAt; simp [List.getD, List.getElem?_append_right]

/-- the groups of m stand at A + k: the scan finds their last one, they add up to m, and their last one is 0 only where m is -/
theorem scan_enc (L : List UInt8) (A : Nat) : ∀ f m k F, m < 128 ^ (f + 1) → (encG f m).length ≤ F →
    (∀ j, j < (encG f m).length → byteAt L (A + k + j) = byteAt (encG f m) j) → A + k + (encG f m).length ≤ L.length →
    scanN L A F k = some (k + (encG f m).length - 1) ∧ accN L A (k + (encG f m).length) = accN L A k + m * 128 ^ k ∧ (byteAt L (A + (k + (encG f m).length - 1)) = 0 → m = 0)
  | f, m, k, F, hm, hF, hb, hl => by
    by_cases hs : m < 128
    · rw [encG_small hs] at hF hb hl ⊢
      simp at hF hl ⊢
      have h0 := hb 0 (by simp)
      rw [Nat.add_zero, byteAt_ofNat (by omega)] at h0
      obtain ⟨F', rfl⟩ : ∃ F', F = F' + 1 := ⟨F - 1, by omega⟩
      refine ⟨?_, ?_, ?_⟩
      · rw [scanN, if_pos (by omega), if_pos (by omega)]
      · show accN L A k + (byteAt L (A + k)).toNat % 128 * 128 ^ k = _
        rw [h0, Int.toNat_natCast, Nat.mod_eq_of_lt hs]
      · intro h; rw [h0] at h; omega
    · cases f with
      | zero => simp at hm; omega
      | succ f =>
        rw [encG_big hs] at hF hb hl ⊢
        simp only [List.length_cons] at hF hb hl ⊢
        have h0 := hb 0 (by omega)
        rw [Nat.add_zero, byteAt_ofNat (by omega)] at h0
        obtain ⟨F', rfl⟩ : ∃ F', F = F' + 1 := ⟨F - 1, by omega⟩
        have hp := encG_pos f (m / 128)
        have ih := scan_enc L A f (m / 128) (k + 1) F' (by rw [Nat.pow_succ] at hm; exact Nat.div_lt_of_lt_mul (by omega)) (by omega)
          (fun j hj => by
            have := hb (j + 1) (by omega)
            rw [byteAt_cons] at this
            rw [← this, show A + (k + 1) + j = A + k + (j + 1) by omega])
          (by omega)
        obtain ⟨i1, i2, i3⟩ := ih
        refine ⟨?_, ?_, ?_⟩
        · rw [scanN, if_pos (by omega), if_neg (by omega), i1]
          congr 1; omega
        · rw [show k + ((encG f (m / 128)).length + 1) = k + 1 + (encG f (m / 128)).length by omega, i2]
          show accN L A k + (byteAt L (A + k)).toNat % 128 * 128 ^ k + m / 128 * 128 ^ (k + 1) = _
          rw [h0, Nat.pow_succ]
          have e : (((m % 128 + 128 : Nat) : Int)).toNat % 128 = m % 128 := by omega
          rw [e, show m / 128 * (128 ^ k * 128) = (m / 128 * 128) * 128 ^ k by rw [Nat.mul_assoc, Nat.mul_comm 128 (128 ^ k)], Nat.add_assoc, ← Nat.add_mul]
          rw [show m % 128 + m / 128 * 128 = m by omega]
        · intro h
          rw [show k + ((encG f (m / 128)).length + 1) - 1 = k + 1 + (encG f (m / 128)).length - 1 by omega] at h
          have := i3 h
          omega

/-- cut by one byte no number stands there -/
theorem scan_cut (L : List UInt8) (A : Nat) : ∀ f m k F, m < 128 ^ (f + 1) →
    (∀ j, j + 1 < (encG f m).length → byteAt L (A + k + j) = byteAt (encG f m) j) → A + k + (encG f m).length = L.length + 1 → scanN L A F k = none
  | f, m, k, 0, hm, hb, hl => rfl
  | f, m, k, F + 1, hm, hb, hl => by
    by_cases hs : m < 128
    · rw [encG_small hs] at hl
      simp at hl
      rw [scanN, if_neg (by omega)]
    · cases f with
      | zero => simp at hm; omega
      | succ f =>
        rw [encG_big hs] at hb hl
        simp only [List.length_cons] at hb hl
        have hp := encG_pos f (m / 128)
        have h0 := hb 0 (by omega)
        rw [Nat.add_zero, byteAt_ofNat (by omega)] at h0
        rw [scanN, if_pos (by omega), if_neg (by omega)]
        exact scan_cut L A f (m / 128) (k + 1) F (by rw [Nat.pow_succ] at hm; exact Nat.div_lt_of_lt_mul (by omega))
          (fun j hj => by
            have := hb (j + 1) (by omega)
            rw [byteAt_cons] at this
            rw [← this, show A + (k + 1) + j = A + k + (j + 1) by omega])
          (by omega)

theorem unf_fold (n : Int) : unfN (foldN n) = n := by
  by_cases h : n < 0
  · have := foldN_neg h
    rw [unfN_odd (by omega)]; omega
  · have := foldN_pos h
    rw [unfN_even (by omega)]; omega

/-- a number that was put comes back, whatever stands behind it -/
theorem num_back (bs tl : List UInt8) (n : Int) : numR (bs ++ encN n ++ tl) (bs.length : Int) = (clampN n, ((bs ++ encN n).length : Int), true) := by
  have hm := foldN_le (clampN_in n)
  have hf := encG_fit 5 (foldN (clampN n)) 4 (by omega)
  have hp := encG_pos 5 (foldN (clampN n))
  have hs := scan_enc (bs ++ encN n ++ tl) bs.length 5 (foldN (clampN n)) 0 5 (by omega) hf
    (fun j hj => by
      rw [Nat.add_zero, List.append_assoc, byteAt_append]
      unfold byteAt encN
      simp [List.getD, List.getElem?_append_left hj])
    (by simp [encN])
  simp only [Nat.zero_add, Nat.pow_zero, Nat.mul_one] at hs
  obtain ⟨h1, h2, h3⟩ := hs
  rw [numR_some h1, show (encG 5 (foldN (clampN n))).length - 1 + 1 = (encG 5 (foldN (clampN n))).length by omega, h2]
  have e : accN (bs ++ encN n ++ tl) bs.length 0 = 0 := rfl
  rw [e, Nat.zero_add, unf_fold]
  rw [if_neg]
  · simp [encN]; omega
  · rintro (⟨ha, hb⟩ | hb)
    · have := h3 hb
      rw [this, encG_small (by omega)] at ha
      simp at ha
    · omega
theorem num_cut (bs : List UInt8) (n : Int) : (numR ((bs ++ encN n).take ((bs ++ encN n).length - 1)) (bs.length : Int)).2.2 = false := by
  have hm := foldN_le (clampN_in n)
  have hp := encG_pos 5 (foldN (clampN n))
  have hl : ((bs ++ encN n).take ((bs ++ encN n).length - 1)).length = bs.length + (encG 5 (foldN (clampN n))).length - 1 := by
    simp [encN]
  rw [numR_none (scan_cut _ bs.length 5 (foldN (clampN n)) 0 5 (by omega) (fun j hj => by
    rw [Nat.add_zero]
    have e := byteAt_append bs (encN n) j
    unfold byteAt at e ⊢
    rw [← show encN n = encG 5 (foldN (clampN n)) from rfl, ← e]
    simp only [List.getD]
    rw [List.getElem?_take, if_pos (by simp [encN]; omega)]) (by rw [hl]; omega))]

theorem encT_back (bs : List UInt8) (s : ByteArray) (hs : s.size ≤ 1000000000) :
    textR (bs ++ (encN s.size ++ s.data.toList)) (bs.length : Int) = (s, ((bs ++ (encN s.size ++ s.data.toList)).length : Int), true) := by
  have e : s.data.toList.length = s.size := by rw [Array.length_toList]; rfl
  have hc : clampN (s.size : Int) = s.size := by unfold clampN; rw [if_neg (by omega), if_neg (by omega)]
  have hn := num_back bs s.data.toList s.size
  rw [hc, List.append_assoc] at hn
  rw [textR_yes (bs ++ (encN s.size ++ s.data.toList)) bs.length (bs ++ encN s.size).length s.size (by rw [hn]; simp; omega) (by rw [hn]) (by rw [hn])]
  rw [← List.append_assoc, List.drop_left' rfl, List.take_of_length_le (by omega)]
  simp; omega
end Go.Proofs.YtfgigcdfmkfkjacDoor
/-
  Texts as bytes, plainly: what PutText writes behind.
-/
namespace Go.Proofs.YtfgigcdfmkfkjacDoor
open Go.RowKit
set_option linter.unusedVariables false

def encT (s : ByteArray) : List UInt8 := encN s.size ++ s.data.toList
theorem encT_length (s : ByteArray) : (encT s).length ≤ 6 + s.size := by
  have := encN_length s.size
  have e : s.data.toList.length = s.size := by rw [Array.length_toList]; rfl
  simp [encT]; omega
theorem strCells_vals (s : ByteArray) : Lib.strCells s = vals s.data.toList := rfl
theorem encT_join (bs : List UInt8) (s : ByteArray) : vals (bs ++ encN s.size) ++ Lib.strCells s = vals (bs ++ encT s) := by
  rw [strCells_vals, ← vals_append]; simp [encT]
theorem encT_len (bs : List UInt8) (s : ByteArray) : bs.length + (encN s.size).length + s.size = (bs ++ encT s).length := by
  have e : s.data.toList.length = s.size := by rw [Array.length_toList]; rfl
  simp only [encT, List.length_append]; omega

end Go.Proofs.YtfgigcdfmkfkjacDoor
/-
  Values as bytes, plainly: what PutVal writes behind.
-/
namespace Go.Proofs.YtfgigcdfmkfkjacDoor
open Go.RowKit
set_option linter.unusedVariables false

def encV (K N : Int) (S : ByteArray) : List UInt8 := encN K ++ (if K = 1 then encN N else encT S)
theorem encV_num (N : Int) (S : ByteArray) : encV 1 N S = encN 1 ++ encN N := by simp [encV]
theorem encV_text {K : Int} (N : Int) (S : ByteArray) (h : K ≠ 1) : encV K N S = encN K ++ encT S := by simp [encV, h]
theorem encV_length (K N : Int) (S : ByteArray) : (encV K N S).length ≤ 12 + S.size := by
  have h1 := encN_length K
  have h2 := encN_length N
  have h3 := encT_length S
  unfold encV
  split <;> simp <;> omega
theorem encV_pos (K N : Int) (S : ByteArray) : 0 < (encV K N S).length := by
  have h1 := encN_pos K
  unfold encV
  simp; omega
end Go.Proofs.YtfgigcdfmkfkjacDoor
/-
  Values in bytes, plainly: what GetVal reads.
-/
namespace Go.Proofs.YtfgigcdfmkfkjacDoor
open Go.RowKit
set_option linter.unusedVariables false

theorem numR_false {bs : List UInt8} {x : Int} (h : (numR bs x).2.2 = false) : numR bs x = (0, 0, false) := by
  by_cases h0 : x < 0
  · exact numR_neg h0
  · obtain ⟨A, rfl⟩ := Int.eq_ofNat_of_zero_le (show 0 ≤ x by omega)
    cases hs : scanN bs A 5 0 with
    | none => exact numR_none hs
    | some k =>
      rw [numR_some hs] at h ⊢
      split at h
      · rename_i hc; rw [if_pos hc]
      · simp at h
theorem textR_size (bs : List UInt8) (x : Int) : (textR bs x).1.size ≤ bs.length := by
  unfold textR
  split
  · exact Nat.zero_le _
  · show (((bs.drop _).take _).toArray).size ≤ _
    simp; omega

/-- what GetVal answers -/
def valR (bs : List UInt8) (x : Int) : Int × Int × ByteArray × Int × Bool :=
  if (numR bs x).2.2 = false then (0, 0, ⟨#[]⟩, 0, false)
  else if (numR bs x).1 = 1 then
    if (numR bs (numR bs x).2.1).2.2 && valB 1 (numR bs (numR bs x).2.1).1 ⟨#[]⟩ then (1, (numR bs (numR bs x).2.1).1, ⟨#[]⟩, (numR bs (numR bs x).2.1).2.1, true) else (0, 0, ⟨#[]⟩, 0, false)
  else
    if (textR bs (numR bs x).2.1).2.2 && valB (numR bs x).1 0 (textR bs (numR bs x).2.1).1 then ((numR bs x).1, 0, (textR bs (numR bs x).2.1).1, (textR bs (numR bs x).2.1).2.1, true) else (0, 0, ⟨#[]⟩, 0, false)
def valT (r : Int × Int × ByteArray × Int × Bool) : Value := .tuple #[.agg #[.int .i64 r.1, .int .i64 r.2.1, .string r.2.2.1], .int .i64 r.2.2.2.1, .bool r.2.2.2.2]
theorem valR_no {bs : List UInt8} {x : Int} (h : (numR bs x).2.2 = false) : valR bs x = (0, 0, ⟨#[]⟩, 0, false) := by unfold valR; rw [if_pos h]
theorem valR_num {bs : List UInt8} {x p n q : Int} {b : Bool} (h : numR bs x = (1, p, true)) (h2 : numR bs p = (n, q, b)) :
    valR bs x = if b && valB 1 n ⟨#[]⟩ then (1, n, ⟨#[]⟩, q, true) else (0, 0, ⟨#[]⟩, 0, false) := by
  unfold valR; rw [h, if_neg (by simp), if_pos rfl, h2]
theorem valR_text {bs : List UInt8} {x k p q : Int} {s : ByteArray} {b : Bool} (h : numR bs x = (k, p, true)) (hk : k ≠ 1) (h2 : textR bs p = (s, q, b)) :
    valR bs x = if b && valB k 0 s then (k, 0, s, q, true) else (0, 0, ⟨#[]⟩, 0, false) := by
  unfold valR; rw [h, if_neg (by simp), if_neg hk, h2]
theorem ret_val {bs : List UInt8} {x : Int} {r : Int × Int × ByteArray × Int × Bool} (h : valR bs x = r) : Ending.returned (valT r) = .returned (valT (valR bs x)) := by rw [h]
end Go.Proofs.YtfgigcdfmkfkjacDoor
/-
  Values come back of their bytes and of their texts, plainly.
-/
namespace Go.Proofs.YtfgigcdfmkfkjacDoor
open Go.RowKit Go.Lib
set_option linter.unusedVariables false

theorem clamp_id {n : Int} (h : -1000000000 ≤ n ∧ n ≤ 1000000000) : clampN n = n := by unfold clampN; rw [if_neg (by omega), if_neg (by omega)]
theorem valB_one {N : Int} {S : ByteArray} (h : valB 1 N S = true) : (-1000000000 ≤ N ∧ N ≤ 1000000000) ∧ S = ⟨#[]⟩ := by
  by_cases hN : -1000000000 ≤ N ∧ N ≤ 1000000000
  · rw [valB_num S hN, decide_eq_true_iff] at h
    exact ⟨hN, empty_of_size h⟩
  · rw [valB_out S hN] at h; cases h
theorem valB_two {K N : Int} {S : ByteArray} (h : valB K N S = true) (hk : K ≠ 1) : K = 2 ∧ N = 0 ∧ S.size ≤ 20 := by
  by_cases h2 : K = 2
  · subst h2
    rw [valB_text, Bool.and_eq_true] at h
    exact ⟨rfl, by simpa using h.2, textB_le h.1⟩
  · rw [valB_none N S hk h2] at h; cases h

/-- a value that was put comes back, whatever stands ahead -/
theorem val_back (bs : List UInt8) (K N : Int) (S : ByteArray) (h : valB K N S = true) :
    valR (bs ++ encV K N S) (bs.length : Int) = (K, N, S, ((bs ++ encV K N S).length : Int), true) := by
  by_cases hk : K = 1
  · subst hk
    obtain ⟨hN, rfl⟩ := valB_one h
    rw [encV_num]
    have h1 := num_back bs (encN N) 1
    rw [clamp_id (by omega), List.append_assoc] at h1
    have h2 := num_back (bs ++ encN 1) [] N
    rw [clamp_id hN, List.append_nil, List.append_assoc] at h2
    rw [valR_num h1 h2, h]
    rfl
  · obtain ⟨rfl, rfl, hS⟩ := valB_two h hk
    rw [encV_text _ _ (by decide)]
    have h1 := num_back bs (encT S) 2
    rw [clamp_id (by omega), List.append_assoc] at h1
    have h2 := encT_back (bs ++ encN 2) S (by omega)
    rw [show (bs ++ encN 2 ++ (encN S.size ++ S.data.toList)) = bs ++ (encN 2 ++ encT S) by rw [List.append_assoc]; rfl] at h2
    rw [valR_text h1 (by decide) h2, h]
    rfl

theorem parse_back (K N : Int) (S : ByteArray) (h : valB K N S = true) : parseO (textV K N S) = some ⟨K, N, S⟩ := by
  by_cases hk : K = 1
  · subst hk
    obtain ⟨hN, rfl⟩ := valB_one h
    have hn := numV_itoa (n := N) (numOk_iff.2 hN)
    rw [textV_num h]
    have hq : quotedB ⟨(itoa N).toArray⟩ = false := by
      rw [Bool.eq_false_iff]
      intro hq
      obtain ⟨h1, h0, -⟩ := quotedB_iff.1 hq
      cases hl : itoa N with
      | nil => rw [hl] at h1; exact absurd h1 (by decide)
      | cons c r =>
        rw [hl] at hn h0
        rw [bat_in (by show 0 < (c :: r).toArray.size; simp)] at h0
        have hc : c.toNat = 39 := by
          have : ((ByteArray.mk (c :: r).toArray)[0]'(by show 0 < (c :: r).toArray.size; simp)) = c := by simp [ByteArray.getElem_eq_getElem_data]
          rw [this] at h0; omega
        rw [numV_head hc] at hn; cases hn
    unfold parseO
    rw [if_neg (by simp [hq])]
    show (numV ((itoa N).toArray).toList).map _ = _
    rw [List.toList_toArray, hn]; rfl
  · obtain ⟨rfl, rfl, hS⟩ := valB_two h hk
    rw [textV_text h hk]
    have e1 : (⟨#[39]⟩ : ByteArray).size = 1 := rfl
    have hsz : (⟨#[39]⟩ ++ S ++ ⟨#[39]⟩ : ByteArray).size = S.size + 2 := by simp only [ByteArray.size_append, e1]; omega
    have hq : quotedB (⟨#[39]⟩ ++ S ++ ⟨#[39]⟩) = true := by
      refine quotedB_iff.2 ⟨by omega, ?_, inner_last rfl⟩
      rw [bat_in (by omega), ByteArray.getElem_append_left (by simp only [ByteArray.size_append, e1]; omega), ByteArray.getElem_append_left (by rw [e1]; omega)]; rfl
    have hi : (⟨#[39]⟩ ++ S ++ ⟨#[39]⟩ : ByteArray).extract 1 ((⟨#[39]⟩ ++ S ++ ⟨#[39]⟩ : ByteArray).size - 1) = S := by
      apply ByteArray.ext_getElem
      · rw [ByteArray.size_extract, hsz]; omega
      · intro i hi hi'
        rw [ByteArray.getElem_extract, ByteArray.getElem_append_left (by simp only [ByteArray.size_append, e1]; omega), ByteArray.getElem_append_right (by rw [e1]; omega)]
        congr 1
        rw [e1]; omega
    unfold parseO
    rw [if_pos hq, hi, h]; rfl
theorem textV_size {K N : Int} {S : ByteArray} (h : valB K N S = true) : (textV K N S).size ≤ 22 := by
  by_cases hk : K = 1
  · subst hk
    obtain ⟨hN, rfl⟩ := valB_one h
    rw [textV_num h]
    show (itoa N).toArray.size ≤ 22
    simp only [List.size_toArray]
    by_cases hn : N < 0
    · rw [itoa_neg hn]; have := nDigits_10 N.natAbs (by omega); simp only [List.length_cons]; rw [decDigits_length]; omega
    · rw [itoa_pos hn]; have := nDigits_10 N.toNat (by omega); rw [decDigits_length]; omega
  · obtain ⟨rfl, rfl, hS⟩ := valB_two h hk
    rw [textV_text h hk]
    have e1 : (⟨#[39]⟩ : ByteArray).size = 1 := rfl
    simp only [ByteArray.size_append, e1]; omega
end Go.Proofs.YtfgigcdfmkfkjacDoor
/-
  Plainly: what is read of a text is right, and has that text.
-/
namespace Go.Proofs.YtfgigcdfmkfkjacDoor
open Go.RowKit
set_option linter.unusedVariables false

/-- what is read of a text is right, and has that text -/
theorem parse_canon {s : ByteArray} {v : V3} (h : parseO s = some v) : valB v.K v.N v.S = true ∧ textV v.K v.N v.S = s ∧ v.S.size ≤ 20 := by
  unfold parseO at h
  split at h
  · rename_i hq
    obtain ⟨h1, h0, h2⟩ := quotedB_iff.1 hq
    split at h
    · rename_i hv
      simp only [Option.some.injEq] at h
      subst h
      exact ⟨hv, by rw [textV_text hv (by decide)]; exact inner_of h1 h0 h2, (valB_two hv (by decide)).2.2⟩
    · cases h
  · cases hn : numV s.data.toList with
    | none => rw [hn] at h; cases h
    | some n =>
      rw [hn] at h
      simp only [Option.map_some, Option.some.injEq] at h
      subst h
      obtain ⟨h1, h2⟩ := numV_some hn
      have hv : valB 1 n ⟨#[]⟩ = true := by rw [valB_num _ (numOk_iff.1 h1)]; decide
      refine ⟨hv, ?_, Nat.zero_le _⟩
      show textV 1 n ⟨#[]⟩ = s
      rw [textV_num hv, ← h2]
end Go.Proofs.YtfgigcdfmkfkjacDoor
/-
  The text of a value that is right is short.
-/
namespace Go.Proofs.YtfgigcdfmkfkjacDoor
open Go.RowKit
set_option linter.unusedVariables false

def V3.tx (v : V3) : ByteArray := textV v.K v.N v.S
theorem tx_size {v : V3} (h : v.ok = true) : v.tx.size ≤ 22 := by
  obtain ⟨K, N, S⟩ := v
  have h' : valB K N S = true := h
  show (textV K N S).size ≤ 22
  by_cases hk : K = 1
  · subst hk
    have hN : -1000000000 ≤ N ∧ N ≤ 1000000000 := by
      by_cases hN : -1000000000 ≤ N ∧ N ≤ 1000000000
      · exact hN
      · rw [valB_out S hN] at h'; cases h'
    rw [textV_num h']
    show (Lib.itoa N).toArray.size ≤ 22
    simp only [List.size_toArray]
    by_cases hn : N < 0
    · rw [itoa_neg hn]; have := nDigits_10 N.natAbs (by omega); simp only [List.length_cons]; rw [Lib.decDigits_length]; omega
    · rw [itoa_pos hn]; have := nDigits_10 N.toNat (by omega); rw [Lib.decDigits_length]; omega
  · have hS := valB_texts h' hk
    rw [textV_text h' hk]
    have e1 : (⟨#[39]⟩ : ByteArray).size = 1 := rfl
    simp only [ByteArray.size_append, e1]; omega
end Go.Proofs.YtfgigcdfmkfkjacDoor
/-
  What the text of a fact is: its kind, and the texts of its values between brackets; the model's and the tested one alike.
-/
namespace Go.Proofs.YtfgigcdfmkfkjacDoor
open Go.RowKit
set_option linter.unusedVariables false

/-- the texts with commas between -/
def joinV (L : List V3) : List UInt8 := Lib.join (L.map fun v => v.tx.data.toList) [44]
theorem joinV_nil : joinV [] = [] := rfl
theorem joinV_snoc (L : List V3) (v : V3) : joinV (L ++ [v]) = if L = [] then v.tx.data.toList else joinV L ++ (44 :: v.tx.data.toList) := by
  unfold joinV Lib.join
  induction L with
  | nil => simp [List.intercalate]
  | cons a r ih =>
    rw [if_neg (by simp)]
    cases r with
    | nil => simp [List.intercalate]
    | cons b s =>
      rw [if_neg (by simp)] at ih
      simp only [List.map_append, List.map_cons, List.map_nil, List.cons_append] at ih ⊢
      have e : ∀ (p q : List UInt8) (t : List (List UInt8)), List.intercalate [44] (p :: q :: t) = p ++ (44 :: List.intercalate [44] (q :: t)) := fun p q t => by simp [List.intercalate, List.intersperse]
      rw [e, e, ih]
      simp
theorem joinV_take {L : List V3} (h : ∀ v ∈ L, v.ok = true) : ∀ k, k ≤ L.length → (joinV (L.take k)).length ≤ 23 * k
  | 0, _ => by simp [joinV_nil]
  | k + 1, hk => by
    have ih := joinV_take h k (by omega)
    have h2 := tx_size (h L[k] (List.getElem_mem (by omega)))
    have e : L[k].tx.data.toList.length = L[k].tx.size := by rw [Array.length_toList]; rfl
    rw [List.take_succ_eq_append_getElem (by omega), joinV_snoc]
    split
    · omega
    · simp only [List.length_append, List.length_cons]; omega
def factT (kd : ByteArray) (L : List V3) : ByteArray := if factB kd L then kd ++ (⟨#[40]⟩ ++ ⟨(joinV L).toArray⟩ ++ ⟨#[41]⟩) else ⟨#[]⟩

theorem ok_at {L : List V3} (h : ∀ v ∈ L, v.ok = true) {k : Nat} (hk : k < L.length) : (vAt L k).ok = true := by rw [vAt_in hk]; exact h _ (List.getElem_mem hk)

end Go.Proofs.YtfgigcdfmkfkjacDoor
/-
  What the model answers for a fact's text: factT.
-/
namespace Go.Proofs.YtfgigcdfmkfkjacDoor
open Go.RowKit
set_option linter.unusedVariables false

theorem factT_no {kd : ByteArray} {L : List V3} (h : factB kd L = false) : factT kd L = ⟨#[]⟩ := by unfold factT; rw [if_neg (by rw [h]; simp)]
theorem factT_yes {kd : ByteArray} {L : List V3} (h : factB kd L = true) : factT kd L = kd ++ (⟨#[40]⟩ ++ ⟨(joinV L).toArray⟩ ++ ⟨#[41]⟩) := by unfold factT; rw [if_pos h]
theorem factB_open {kd : ByteArray} {L : List V3} (h : factB kd L = true) : nameB kd = true ∧ L.length ≤ 5 ∧ ∀ v ∈ L, v.ok = true := by
  unfold factB at h
  simp only [Bool.and_eq_true, decide_eq_true_eq, List.all_eq_true] at h
  exact ⟨h.1.1, h.1.2, h.2⟩
theorem joinV_le {L : List V3} (h : ∀ v ∈ L, v.ok = true) : (joinV L).length ≤ 23 * L.length := by
  have := joinV_take h L.length (Nat.le_refl _)
  rwa [List.take_length] at this
theorem name_size {s : ByteArray} (h : nameB s = true) : s.size ≤ 12 := by
  unfold nameB inB at h
  simp only [Bool.and_eq_true, decide_eq_true_eq] at h
  omega
theorem keepT {w0 W w' : World} {B : Nat} {p0 p1 : Addr} {v0 v1 : Value} {a : Option Addr} {L : List V3} (hb : Below W.heap.size W w')
    (h : W.cell? p0 = some v0 ∧ W.cell? p1 = some v1 ∧ RdV W a L ∧ Below B w0 W ∧ B ≤ W.heap.size) :
    w'.cell? p0 = some v0 ∧ w'.cell? p1 = some v1 ∧ RdV w' a L ∧ Below B w0 w' ∧ B ≤ w'.heap.size := by
  obtain ⟨h0, h1, h2, h3, h4⟩ := h
  have k : ∀ {a : Addr} {v : Value}, W.cell? a = some v → w'.cell? a = some v := fun {a v} h => by rw [hb.cell (World.block_lt_of_cell? W _ h)]; exact h
  exact ⟨k h0, k h1, h2.below hb, h3.trans (hb.mono h4), Nat.le_trans h4 hb.size⟩
theorem rdT {w0 W : World} {B : Nat} {p0 p1 : Addr} {v0 v1 : Value} {a : Option Addr} {L : List V3}
    (h : W.cell? p0 = some v0 ∧ W.cell? p1 = some v1 ∧ RdV W a L ∧ Below B w0 W ∧ B ≤ W.heap.size) : RdV W a L := h.2.2.1

end Go.Proofs.YtfgigcdfmkfkjacDoor
/-
  What the orders of numbers, texts and values answer.
-/
namespace Go.Proofs.YtfgigcdfmkfkjacDoor
open Go.RowKit
set_option linter.unusedVariables false

def cmpI (x y : Int) : Int := if x < y then -1 else if y < x then 1 else 0
def cmpS (a b : ByteArray) : Int := if Op.bytesLess a.toList b.toList then -1 else if a.toList == b.toList then 0 else 1
def orI (a b c : Int) : Int := if a != 0 then a else if b != 0 then b else c

end Go.Proofs.YtfgigcdfmkfkjacDoor
/-
  What the order of values answers, the tested one and the model's alike: lessB; nothing that was there has turned.
-/
namespace Go.Proofs.YtfgigcdfmkfkjacDoor
open Go.RowKit
set_option linter.unusedVariables false

def lessB (K N : Int) (S : ByteArray) (K' N' : Int) (S' : ByteArray) : Bool :=
  if K != K' then decide (K < K') else if N != N' then decide (N < N') else Op.bytesLess S.toList S'.toList

theorem new3 (w : World) (o1 o2 : Obj) (a b c : Value) (T : TypeId) : (((w.alloc o1).alloc o2).alloc (.cells #[a, b, c] T)).drew.heap[w.heap.size + 1 + 1]? = some (.cells #[a, b, c] T (0, 0)) := by
  have := box_new ((w.alloc o1).alloc o2) a b c T
  simp only [World.size_alloc] at this
  exact this
theorem new3_0 (w : World) (o1 o2 : Obj) (a b c : Value) (T : TypeId) : (((w.alloc o1).alloc o2).alloc (.cells #[a, b, c] T)).drew.cell? ⟨w.heap.size + 1 + 1, 0, none⟩ = some a := (box_cell (new3 w o1 o2 a b c T)).1
theorem new3_1 (w : World) (o1 o2 : Obj) (a b c : Value) (T : TypeId) : (((w.alloc o1).alloc o2).alloc (.cells #[a, b, c] T)).drew.cell? ⟨w.heap.size + 1 + 1, 1, none⟩ = some b := (box_cell (new3 w o1 o2 a b c T)).2.1
theorem new3_2 (w : World) (o1 o2 : Obj) (a b c : Value) (T : TypeId) : (((w.alloc o1).alloc o2).alloc (.cells #[a, b, c] T)).drew.cell? ⟨w.heap.size + 1 + 1, 2, none⟩ = some c := (box_cell (new3 w o1 o2 a b c T)).2.2.1

theorem cmpI_neg (x y : Int) : (cmpI x y < 0 ↔ x < y) ∧ (cmpI x y = 0 ↔ x = y) := by
  unfold cmpI
  by_cases h1 : x < y
  · rw [if_pos h1]; omega
  · rw [if_neg h1]
    by_cases h2 : y < x
    · rw [if_pos h2]; omega
    · rw [if_neg h2]; omega
theorem cmpS_neg (a b : ByteArray) : (cmpS a b < 0) ↔ Op.bytesLess a.toList b.toList = true := by
  unfold cmpS
  cases Op.bytesLess a.toList b.toList
  · simp only [Bool.false_eq_true, if_false, iff_false]
    split <;> omega
  · simp
theorem cmpI_bne (x y : Int) : (cmpI x y != 0) = (x != y) := by
  have h := (cmpI_neg x y).2
  by_cases e : x = y
  · have h0 := h.2 e; rw [h0]; simp [e]
  · have h0 : cmpI x y ≠ 0 := fun h1 => e (h.1 h1)
    rw [bne_iff_ne.2 h0, bne_iff_ne.2 e]
theorem less_of (K N : Int) (S : ByteArray) (K' N' : Int) (S' : ByteArray) : decide (orI (cmpI K K') (cmpI N N') (cmpS S S') < 0) = lessB K N S K' N' S' := by
  have h1 := (cmpI_neg K K').1
  have h2 := (cmpI_neg N N').1
  have h3 := cmpS_neg S S'
  unfold orI lessB
  rw [cmpI_bne, cmpI_bne]
  cases (K != K')
  · cases (N != N')
    · cases hb : Op.bytesLess S.toList S'.toList
      · rw [hb] at h3; simpa using h3
      · rw [hb] at h3; simpa using h3
    · simpa using h2
  · simpa using h1

end Go.Proofs.YtfgigcdfmkfkjacDoor
/-
  The order of values, plainly: of two unlike ones one is less, of two like ones none.
-/
namespace Go.Proofs.YtfgigcdfmkfkjacDoor
open Go.RowKit
set_option linter.unusedVariables false

theorem bl_tri : ∀ x y : List UInt8, (x = y ∧ Op.bytesLess x y = false ∧ Op.bytesLess y x = false) ∨ (x ≠ y ∧ ((Op.bytesLess x y = true ∧ Op.bytesLess y x = false) ∨ (Op.bytesLess x y = false ∧ Op.bytesLess y x = true)))
  | [], [] => .inl ⟨rfl, rfl, rfl⟩
  | [], b :: y => .inr ⟨by simp, .inl ⟨rfl, rfl⟩⟩
  | a :: x, [] => .inr ⟨by simp, .inr ⟨rfl, rfl⟩⟩
  | a :: x, b :: y => by
    have ih := bl_tri x y
    by_cases h1 : a = b
    · subst h1
      have hl : ¬ a < a := UInt8.lt_irrefl a
      rcases ih with ⟨rfl, h2, h3⟩ | ⟨hne, h⟩
      · left
        refine ⟨rfl, ?_, ?_⟩ <;> simp [Op.bytesLess, hl, h2]
      · right
        refine ⟨by simpa using hne, ?_⟩
        rcases h with ⟨h2, h3⟩ | ⟨h2, h3⟩
        · left; constructor <;> simp [Op.bytesLess, hl, h2, h3]
        · right; constructor <;> simp [Op.bytesLess, hl, h2, h3]
    · right
      have h1' : ¬ b = a := fun e => h1 e.symm
      refine ⟨by simp [h1], ?_⟩
      rcases Nat.lt_or_ge a.toNat b.toNat with hlt | hge
      · left
        have l1 : a < b := UInt8.lt_iff_toNat_lt.2 hlt
        have l2 : ¬ b < a := fun h => by have := UInt8.lt_iff_toNat_lt.1 h; omega
        constructor
        · simp [Op.bytesLess, l1]
        · simp [Op.bytesLess, l2, h1']
      · right
        have hne : a.toNat ≠ b.toNat := fun e => h1 (UInt8.toNat_inj.1 e)
        have l1 : b < a := UInt8.lt_iff_toNat_lt.2 (by omega)
        have l2 : ¬ a < b := fun h => by have := UInt8.lt_iff_toNat_lt.1 h; omega
        constructor
        · simp [Op.bytesLess, l2, h1]
        · simp [Op.bytesLess, l1]


/-- two values are the same and none is less; or they differ and just one is -/
theorem order_cases (K N : Int) (S : ByteArray) (K' N' : Int) (S' : ByteArray) :
    (K = K' ∧ N = N' ∧ S = S' ∧ lessB K N S K' N' S' = false) ∨
    (((K == K') = false ∨ ((K == K') = true ∧ (N == N') = false) ∨ ((K == K') = true ∧ (N == N') = true ∧ (S.toList == S'.toList) = false)) ∧ ((lessB K N S K' N' S' = true ∧ lessB K' N' S' K N S = false) ∨ (lessB K N S K' N' S' = false ∧ lessB K' N' S' K N S = true))) := by
  unfold lessB
  by_cases hK : K = K'
  · subst hK
    by_cases hN : N = N'
    · subst hN
      rcases bl_tri S.toList S'.toList with ⟨h1, h2, h3⟩ | ⟨h1, h2⟩
      · left
        exact ⟨rfl, rfl, toList_inj h1, by simp [h2]⟩
      · right
        exact ⟨.inr (.inr ⟨by simp, by simp, by simpa using h1⟩), by simpa using h2⟩
    · right
      have h1 : (N != N') = true := by simpa using hN
      have h2 : (N' != N) = true := by simpa using fun e => hN e.symm
      refine ⟨.inr (.inl ⟨by simp, by simpa using hN⟩), ?_⟩
      rw [h1, h2]
      simp
      omega
  · right
    have h1 : (K != K') = true := by simpa using hK
    have h2 : (K' != K) = true := by simpa using fun e => hK e.symm
    refine ⟨.inl (by simpa using hK), ?_⟩
    rw [h1, h2]
    simp
    omega
end Go.Proofs.YtfgigcdfmkfkjacDoor
/-
  The order of facts, plainly.
-/
namespace Go.Proofs.YtfgigcdfmkfkjacDoor
open Go.RowKit
set_option linter.unusedVariables false

def V3.less (v u : V3) : Bool := lessB v.K v.N v.S u.K u.N u.S
/-- the first that are unlike decide -/
def lessL : List V3 → List V3 → Bool
  | v :: r, u :: s => if v = u then lessL r s else v.less u
  | _, _ => false
def lessF (kd : ByteArray) (L : List V3) (kd' : ByteArray) (M : List V3) : Bool :=
  if kd.toList != kd'.toList then Op.bytesLess kd.toList kd'.toList else if ((L.length : Int) != (M.length : Int)) then decide ((L.length : Int) < (M.length : Int)) else lessL L M
def sameF (kd : ByteArray) (L : List V3) (kd' : ByteArray) (M : List V3) : Bool := decide (kd = kd') && decide (L = M)

theorem lessL_at : ∀ {L M : List V3} {k : Nat}, k < L.length → k < M.length → (∀ j, j < k → vAt L j = vAt M j) → vAt L k ≠ vAt M k → lessL L M = (vAt L k).less (vAt M k)
  | [], _, k, h, _, _, _ => absurd h (Nat.not_lt_zero _)
  | _ :: _, [], k, _, h, _, _ => absurd h (Nat.not_lt_zero _)
  | v :: r, u :: s, 0, _, _, _, hne => by
    have hne' : v ≠ u := hne
    show (if v = u then _ else _) = _
    rw [if_neg hne']; rfl
  | v :: r, u :: s, k + 1, h, h', hall, hne => by
    have h0 : v = u := hall 0 (by omega)
    show (if v = u then _ else _) = _
    rw [if_pos h0]
    exact lessL_at (L := r) (M := s) (k := k) (by simpa using h) (by simpa using h') (fun j hj => hall (j + 1) (by omega)) hne
theorem lessL_none : ∀ {L M : List V3}, (∀ j, j < L.length → vAt L j = vAt M j) → lessL L M = false
  | [], _, _ => rfl
  | _ :: _, [], _ => rfl
  | v :: r, u :: s, h => by
    have h0 : v = u := h 0 (by simp)
    show (if v = u then _ else _) = _
    rw [if_pos h0]
    exact lessL_none (L := r) (M := s) (fun j hj => h (j + 1) (by simpa using hj))
theorem eq_of_at {L M : List V3} (hl : L.length = M.length) (h : ∀ j, j < L.length → vAt L j = vAt M j) : L = M := by
  apply List.ext_getElem hl
  intro i h1 h2
  have := h i h1
  rw [vAt_in h1, vAt_in h2] at this
  exact this
theorem ne_of_at {L M : List V3} {k : Nat} (h : vAt L k ≠ vAt M k) : L ≠ M := fun e => h (by rw [e])

theorem cmpS_zero (a b : ByteArray) : cmpS a b = 0 ↔ a.toList = b.toList := by
  unfold cmpS
  rcases bl_tri a.toList b.toList with ⟨h1, h2, h3⟩ | ⟨h1, h2⟩
  · rw [h2, h1]; simp
  · rcases h2 with ⟨h2, h3⟩ | ⟨h2, h3⟩
    · rw [h2]; simp [h1]
    · rw [h2]; simp [h1]
def cmpV (v u : V3) : Int := orI (cmpI v.K u.K) (cmpI v.N u.N) (cmpS v.S u.S)
theorem cmpV_zero (v u : V3) : cmpV v u = 0 ↔ v = u := by
  have h1 := (cmpI_neg v.K u.K).2
  have h2 := (cmpI_neg v.N u.N).2
  have h3 := cmpS_zero v.S u.S
  unfold cmpV orI
  constructor
  · intro h
    by_cases e1 : cmpI v.K u.K = 0
    · rw [e1] at h
      simp only [bne_self_eq_false, Bool.false_eq_true, if_false] at h
      by_cases e2 : cmpI v.N u.N = 0
      · rw [e2] at h
        simp only [bne_self_eq_false, Bool.false_eq_true, if_false] at h
        exact V3.ext' (h1.1 e1) (h2.1 e2) (toList_inj (h3.1 h))
      · rw [if_pos (by simpa using e2)] at h; exact absurd h e2
    · rw [if_pos (by simpa using e1)] at h; exact absurd h e1
  · rintro rfl
    rw [h1.2 rfl, h2.2 rfl, h3.2 rfl]; rfl
theorem cmpV_less (v u : V3) : decide (cmpV v u < 0) = v.less u := less_of _ _ _ _ _ _

/-- the compare of facts is below 0 just where one is less -/
theorem lessF_of (kd kd' : ByteArray) (L M : List V3) (r : Int) (hr : L.length = M.length → decide (r < 0) = lessL L M) :
    decide (orI (cmpS kd kd') (cmpI L.length M.length) r < 0) = lessF kd L kd' M := by
  have hz := cmpS_zero kd kd'
  have hn := cmpS_neg kd kd'
  unfold orI lessF
  by_cases e1 : kd.toList = kd'.toList
  · rw [hz.2 e1]
    simp only [bne_self_eq_false, Bool.false_eq_true, if_false, e1]
    rw [cmpI_bne]
    by_cases e2 : L.length = M.length
    · have : ((L.length : Int) != (M.length : Int)) = false := by simp [e2]
      rw [this]; exact hr e2
    · have : ((L.length : Int) != (M.length : Int)) = true := by simp; omega
      rw [this]
      simp only [if_true]
      exact decide_eq_decide.2 (cmpI_neg _ _).1
  · have h1 : (cmpS kd kd' != 0) = true := by simpa using fun h => e1 (hz.1 h)
    have h2 : (kd.toList != kd'.toList) = true := by simpa using e1
    rw [h1, h2]
    simp only [if_true]
    cases hb : Op.bytesLess kd.toList kd'.toList
    · rw [hb] at hn; simpa using hn
    · rw [hb] at hn; simpa using hn
end Go.Proofs.YtfgigcdfmkfkjacDoor
/-
  Plainly: the text of a fact that is right tells the fact: which bytes are in it, and that two such facts with one text are one.
-/
namespace Go.Proofs.YtfgigcdfmkfkjacDoor
open Go.RowKit
set_option linter.unusedVariables false

/-- a byte of a value's text: a word's, a quote or a sign -/
def txB (c : UInt8) : Prop := c ≠ 44 ∧ c ≠ 40 ∧ c ≠ 41
theorem dec_bytes : ∀ (n u : Nat), u ≤ n → ∀ c ∈ Lib.decDigits u, 48 ≤ c.toNat ∧ c.toNat ≤ 57
  | 0, u, h, c, hc => by
    obtain rfl : u = 0 := by omega
    rw [Lib.decDigits_one (by omega)] at hc
    simp at hc; subst hc; decide
  | n + 1, u, h, c, hc => by
    by_cases hu : u < 10
    · rw [Lib.decDigits_one hu] at hc
      simp only [List.mem_cons, List.not_mem_nil, or_false] at hc
      subst hc
      have : (UInt8.ofNat (48 + u)).toNat = 48 + u := by simp; omega
      omega
    · rw [Lib.decDigits, dif_neg hu] at hc
      rcases List.mem_append.1 hc with h1 | h1
      · exact dec_bytes n (u / 10) (by omega) c h1
      · simp only [List.mem_cons, List.not_mem_nil, or_false] at h1
        subst h1
        have : (UInt8.ofNat (48 + u % 10)).toNat = 48 + u % 10 := by simp; omega
        omega
theorem u8_ne {c : UInt8} {k : Nat} (hk : k < 256) (h : c.toNat ≠ k) : c ≠ UInt8.ofNat k := by
  intro e; apply h; rw [e]; simp; omega
theorem itoa_bytes (n : Int) : ∀ c ∈ Lib.itoa n, txB c := by
  intro c hc
  have k : ∀ u, c ∈ Lib.decDigits u → txB c := fun u h => by
    have := dec_bytes u u (Nat.le_refl _) c h
    exact ⟨u8_ne (k := 44) (by omega) (by omega), u8_ne (k := 40) (by omega) (by omega), u8_ne (k := 41) (by omega) (by omega)⟩
  unfold Lib.itoa at hc
  split at hc
  · rcases List.mem_cons.1 hc with rfl | h
    · exact ⟨by decide, by decide, by decide⟩
    · exact k _ h
  · exact k _ hc
theorem itoa_ne (n : Int) : Lib.itoa n ≠ [] := by
  unfold Lib.itoa; split
  · simp
  · exact decDigits_ne _
theorem word_byte {c : UInt8} (h : wordB (c.toNat : Int) = true) : txB c := by
  have h2 : c.toNat ≠ 44 ∧ c.toNat ≠ 40 ∧ c.toNat ≠ 41 := by
    unfold wordB inB at h
    simp only [Bool.or_eq_true, Bool.and_eq_true, decide_eq_true_eq, beq_iff_eq] at h
    omega
  exact ⟨u8_ne (k := 44) (by omega) h2.1, u8_ne (k := 40) (by omega) h2.2.1, u8_ne (k := 41) (by omega) h2.2.2⟩
theorem bat_mem {s : ByteArray} {p : Int → Bool} (h : ∀ i, i < s.size → p (bat s i) = true) : ∀ c ∈ s.data.toList, p (c.toNat : Int) = true := by
  intro c hc
  obtain ⟨i, hi, rfl⟩ := List.getElem_of_mem hc
  have hi2 : i < s.size := by rw [Array.length_toList] at hi; exact hi
  have := h i hi2
  rw [bat_in hi2] at this
  exact this
theorem textB_bytes {s : ByteArray} (h : textB s = true) : ∀ c ∈ s.data.toList, wordB (c.toNat : Int) = true := by
  refine bat_mem (p := wordB) (fun i hi => ?_)
  unfold textB at h
  rw [Bool.and_eq_true] at h
  exact List.all_eq_true.1 h.1 i (by simpa using hi)
theorem nameB_bytes {s : ByteArray} (h : nameB s = true) : ∀ c ∈ s.data.toList, txB c := by
  intro c hc
  refine word_byte (bat_mem (p := wordB) (fun i hi => ?_) c hc)
  unfold nameB at h
  rw [Bool.and_eq_true] at h
  have := List.all_eq_true.1 h.1 i (by simpa using hi)
  unfold headB at this
  rw [Bool.and_eq_true] at this
  exact this.1
theorem tx_bytes {v : V3} (h : v.ok = true) : (∀ c ∈ v.tx.data.toList, txB c) ∧ v.tx.data.toList ≠ [] := by
  obtain ⟨K, N, S⟩ := v
  have h' : valB K N S = true := h
  show (∀ c ∈ (textV K N S).data.toList, txB c) ∧ (textV K N S).data.toList ≠ []
  by_cases hk : K = 1
  · subst hk
    rw [textV_num h']
    exact ⟨by simpa using itoa_bytes N, by simpa using itoa_ne N⟩
  · rw [textV_text h' hk]
    have ht : textB S = true := by
      unfold valB at h'
      rw [Bool.or_eq_true] at h'
      rcases h' with h1 | h1
      · simp only [Bool.and_eq_true, beq_iff_eq] at h1; exact absurd h1.1.1 hk
      · simp only [Bool.and_eq_true] at h1; exact h1.1.2
    refine ⟨fun c hc => ?_, by simp⟩
    have hc2 : c = 39 ∨ c ∈ S.data.toList := by
      have : c ∈ [39] ++ S.data.toList ++ [39] := by simpa using hc
      simp only [List.mem_append, List.mem_cons, List.not_mem_nil, or_false] at this
      rcases this with (h | h) | h
      · exact .inl h
      · exact .inr h
      · exact .inl h
    rcases hc2 with rfl | hc2
    · exact ⟨by decide, by decide, by decide⟩
    · exact word_byte (textB_bytes ht c hc2)
theorem tx_inj {v u : V3} (h : v.ok = true) (h' : u.ok = true) (e : v.tx = u.tx) : v = u := by
  have p1 := parse_back v.K v.N v.S h
  have p2 := parse_back u.K u.N u.S h'
  have : textV v.K v.N v.S = textV u.K u.N u.S := e
  rw [this, p2] at p1
  simp only [Option.some.injEq, V3.mk.injEq] at p1
  exact V3.ext' p1.1.symm p1.2.1.symm p1.2.2.symm

/-- what stands ahead of the first such byte is told by the whole -/
theorem cut_inj {s : UInt8} : ∀ {a b x y : List UInt8}, s ∉ a → s ∉ b → a ++ s :: x = b ++ s :: y → a = b ∧ x = y
  | [], [], x, y, _, _, e => by simp at e; exact ⟨rfl, e⟩
  | [], c :: b, x, y, _, hb, e => by simp at e; exact absurd (by simp [e.1]) hb
  | c :: a, [], x, y, ha, _, e => by simp at e; exact absurd (by simp [e.1]) ha
  | c :: a, d :: b, x, y, ha, hb, e => by
    simp at e ha hb
    obtain ⟨h1, h2⟩ := cut_inj ha.2 hb.2 e.2
    exact ⟨by rw [e.1, h1], h2⟩
theorem inter_cons (s : UInt8) (p q : List UInt8) (t : List (List UInt8)) : List.intercalate [s] (p :: q :: t) = p ++ (s :: List.intercalate [s] (q :: t)) := by simp [List.intercalate, List.intersperse]
theorem inter_one (s : UInt8) (p : List UInt8) : List.intercalate [s] [p] = p := by simp [List.intercalate]
theorem inter_inj {s : UInt8} : ∀ {A B : List (List UInt8)}, (∀ a ∈ A, s ∉ a) → (∀ b ∈ B, s ∉ b) → A ≠ [] → B ≠ [] → List.intercalate [s] A = List.intercalate [s] B → A = B
  | [a], [b], _, _, _, _, e => by rw [inter_one, inter_one] at e; rw [e]
  | [a], b :: c :: B, ha, hb, _, _, e => by
    rw [inter_one, inter_cons] at e
    exact absurd (by rw [e]; simp) (ha a (by simp))
  | a :: c :: A, [b], ha, hb, _, _, e => by
    rw [inter_one, inter_cons] at e
    exact absurd (by rw [← e]; simp) (hb b (by simp))
  | a :: c :: A, b :: d :: B, ha, hb, _, _, e => by
    rw [inter_cons, inter_cons] at e
    obtain ⟨h1, h2⟩ := cut_inj (ha a (by simp)) (hb b (by simp)) e
    have := inter_inj (A := c :: A) (B := d :: B) (fun x hx => ha x (List.mem_cons_of_mem _ hx)) (fun x hx => hb x (List.mem_cons_of_mem _ hx)) (by simp) (by simp) h2
    rw [h1, this]
theorem map_tx_inj : ∀ {L M : List V3}, (∀ v ∈ L, v.ok = true) → (∀ v ∈ M, v.ok = true) → (L.map fun v => v.tx.data.toList) = (M.map fun v => v.tx.data.toList) → L = M
  | [], [], _, _, _ => rfl
  | [], _ :: _, _, _, e => by simp at e
  | _ :: _, [], _, _, e => by simp at e
  | a :: L, b :: M, hL, hM, e => by
    simp only [List.map_cons, List.cons.injEq] at e
    have h1 : a.tx = b.tx := ByteArray.ext (Array.toList_inj.1 e.1)
    rw [tx_inj (hL a (by simp)) (hM b (by simp)) h1, map_tx_inj (fun x hx => hL x (List.mem_cons_of_mem _ hx)) (fun x hx => hM x (List.mem_cons_of_mem _ hx)) e.2]
theorem joinV_inj {L M : List V3} (hL : ∀ v ∈ L, v.ok = true) (hM : ∀ v ∈ M, v.ok = true) (e : joinV L = joinV M) : L = M := by
  have key : ∀ {A : List V3}, (∀ v ∈ A, v.ok = true) → joinV A = [] → A = [] := fun {A} hA h => by
    cases A with
    | nil => rfl
    | cons a A =>
      exfalso
      have hne := (tx_bytes (hA a (by simp))).2
      unfold joinV Lib.join at h
      cases A with
      | nil => rw [List.map_cons, List.map_nil, inter_one] at h; exact hne h
      | cons b A => rw [List.map_cons, List.map_cons, inter_cons] at h; simp at h
  cases L with
  | nil => exact (key hM (by rw [← e]; rfl)).symm
  | cons a L =>
    cases M with
    | nil => exact key hL (by rw [e]; rfl)
    | cons b M =>
      apply map_tx_inj hL hM
      unfold joinV Lib.join at e
      refine inter_inj (s := 44) ?_ ?_ (by simp) (by simp) e
      · intro x hx hc
        obtain ⟨v, hv, rfl⟩ := List.mem_map.1 hx
        exact ((tx_bytes (hL v hv)).1 44 hc).1 rfl
      · intro x hx hc
        obtain ⟨v, hv, rfl⟩ := List.mem_map.1 hx
        exact ((tx_bytes (hM v hv)).1 44 hc).1 rfl
theorem factT_list {kd : ByteArray} {L : List V3} (h : factB kd L = true) : (factT kd L).data.toList = kd.data.toList ++ 40 :: (joinV L ++ [41]) := by
  rw [factT_yes h]; simp
theorem factT_inj {kd kd' : ByteArray} {L M : List V3} (h : factB kd L = true) (h' : factB kd' M = true) (e : factT kd L = factT kd' M) : kd = kd' ∧ L = M := by
  have e2 : (factT kd L).data.toList = (factT kd' M).data.toList := by rw [e]
  rw [factT_list h, factT_list h'] at e2
  obtain ⟨n1, -, o1⟩ := factB_open h
  obtain ⟨n2, -, o2⟩ := factB_open h'
  obtain ⟨h1, h2⟩ := cut_inj (s := 40) (fun hc => (nameB_bytes n1 40 hc).2.1 rfl) (fun hc => (nameB_bytes n2 40 hc).2.1 rfl) e2
  exact ⟨ByteArray.ext (Array.toList_inj.1 h1), joinV_inj o1 o2 (List.append_cancel_right h2)⟩
theorem sameF_text {kd kd' : ByteArray} {L M : List V3} (h : factB kd L = true) (h' : factB kd' M = true) : sameF kd L kd' M = decide (factT kd L = factT kd' M) := by
  rw [Bool.eq_iff_iff, decide_eq_true_iff]
  unfold sameF
  rw [Bool.and_eq_true, decide_eq_true_iff, decide_eq_true_iff]
  constructor
  · rintro ⟨rfl, rfl⟩; rfl
  · exact factT_inj h h'
end Go.Proofs.YtfgigcdfmkfkjacDoor
/-
  Plainly: a fact's text read by the library's Cut and SplitN is what the model reads.
-/
namespace Go.Proofs.YtfgigcdfmkfkjacDoor
open Go.RowKit
set_option linter.unusedVariables false

/-- a text that is read as a value has no bracket and no comma -/
theorem parseO_bytes {p : ByteArray} {v : V3} (h : parseO p = some v) : ∀ c ∈ p.data.toList, txB c := by
  obtain ⟨h1, h2, -⟩ := parse_canon h
  have := (tx_bytes (v := v) h1).1
  intro c hc
  refine this c ?_
  show c ∈ (textV v.K v.N v.S).data.toList
  rw [h2]; exact hc
theorem bytes_ext {a b : ByteArray} (h : a.data.toList = b.data.toList) : a = b := by
  cases a; cases b
  simp only [ByteArray.mk.injEq]
  exact Array.toList_inj.1 h
theorem maps_inj : ∀ {A B : List ByteArray}, A.map (·.data.toList) = B.map (·.data.toList) → A = B
  | [], [], _ => rfl
  | [], _ :: _, h => by cases h
  | _ :: _, [], h => by cases h
  | a :: A, b :: B, h => by
    simp only [List.map_cons, List.cons.injEq] at h
    rw [bytes_ext h.1, maps_inj h.2]
/-- a piece that is no value: none of it -/
theorem valK_bad {ws : List ByteArray} {k : Nat} (hk : k < ws.length) (h : parseO (sAt ws k) = none) : valK ws ws.length = none := by
  cases hv : valK ws k with
  | none => exact valK_none hv _ (by omega)
  | some M => exact valK_none (valK_miss hv h) _ (by omega)
theorem valK_mem {ws : List ByteArray} {p : ByteArray} (hp : p ∈ ws) (h : parseO p = none) : valK ws ws.length = none := by
  obtain ⟨k, hk, rfl⟩ := List.getElem_of_mem hp
  exact valK_bad hk (by rw [sAt_in hk]; exact h)
/-- the values within, as the library's SplitN has them -/
def withinI (s : ByteArray) : Option (List V3) := if s.size = 0 then some [] else valK (Lib.splitB ⟨#[44]⟩ 0 (min 6 (s.size + 1) - 1) s) (Lib.splitB ⟨#[44]⟩ 0 (min 6 (s.size + 1) - 1) s).length
theorem spl_len (c : UInt8) : ∀ l : List UInt8, (splP c l).length ≤ l.length + 1
  | [] => by simp [splP]
  | x :: r => by
    have ih := spl_len c r
    unfold splP
    split
    · simp; omega
    · cases h : splP c r with
      | nil => simp
      | cons p q => rw [h] at ih; simp at ih ⊢; omega
/-- both read the same, or what they read is no fact's -/
theorem within_same (kd s : ByteArray) : (match withinI s with | some M => if factB kd M then some M else none | none => none) = (match (if s.size = 0 then some [] else valK (splitE s 44) (splitE s 44).length) with | some M => if factB kd M then some M else none | none => none) := by
  unfold withinI
  by_cases h0 : s.size = 0
  · rw [if_pos h0, if_pos h0]
  · rw [if_neg h0, if_neg h0]
    have hl : s.data.toList.length = s.size := by rw [Array.length_toList]; rfl
    have hp := splitE_pieces s 44
    have hB := Lib.splitB_data ⟨#[44]⟩ 0 (min 6 (s.size + 1) - 1) s
    have hcnt := spl_len 44 s.data.toList
    have hE : (splitE s 44).length = (splP 44 s.data.toList).length := by rw [← hp, List.length_map]; rfl
    by_cases hfew : (splP 44 s.data.toList).length ≤ min 6 (s.size + 1) - 1 + 1
    · have e : Lib.splitB ⟨#[44]⟩ 0 (min 6 (s.size + 1) - 1) s = splitE s 44 := maps_inj (by rw [hB, show (ByteArray.mk #[44]).data.toList = [44] from rfl, splitK_all hfew]; exact hp.symm)
      rw [e]
    · have hk : min 6 (s.size + 1) - 1 = 5 := by omega
      rw [hk] at hB hfew ⊢
      have hlen : (Lib.splitB ⟨#[44]⟩ 0 5 s).length = 6 := by
        have := congrArg List.length hB
        rw [List.length_map, show (ByteArray.mk #[44]).data.toList = [44] from rfl, splitK_more (by omega)] at this
        exact this
      have none_of : ∀ (ws : List ByteArray), 6 ≤ ws.length → (match valK ws ws.length with | some M => if factB kd M then some M else none | none => none) = none := fun ws hw => by
        cases hv : valK ws ws.length with
        | none => rfl
        | some M =>
          have hM := valK_len hv
          have hf : factB kd M = false := by
            unfold factB
            rw [decide_eq_false (show ¬ M.length ≤ 5 by omega)]
            simp
          simp only [hf]
          rfl
      rw [none_of _ (by omega), none_of _ (by omega)]
end Go.Proofs.YtfgigcdfmkfkjacDoor
/-
  Plainly: the tested program's reading of a fact's text (Cut, CutSuffix, SplitN) is the model's.
-/
namespace Go.Proofs.YtfgigcdfmkfkjacDoor
open Go.RowKit
set_option linter.unusedVariables false

/-- a fact's text read by Cut, CutSuffix and SplitN -/
def parseFI (s : ByteArray) : Option (ByteArray × List V3) :=
  if (Lib.cut s.data.toList [40]).2.2 && Lib.hasSuffix (Lib.cut s.data.toList [40]).2.1 [41] then
    (match withinI ⟨(Lib.trimSuffix (Lib.cut s.data.toList [40]).2.1 [41]).toArray⟩ with
    | some M => if factB ⟨(Lib.cut s.data.toList [40]).1.toArray⟩ M then some (⟨(Lib.cut s.data.toList [40]).1.toArray⟩, M) else none
    | none => none) else none
theorem sAt_map {L : List ByteArray} {k : Nat} {p : List UInt8} (h : (L.map (·.data.toList))[k]? = some p) : sAt L k = ⟨p.toArray⟩ := by
  rw [List.getElem?_map] at h
  cases hq : L[k]? with
  | none => rw [hq] at h; cases h
  | some x =>
    rw [hq] at h
    simp only [Option.map_some, Option.some.injEq] at h
    have hk := (List.getElem?_eq_some_iff.1 hq).1
    have hx := (List.getElem?_eq_some_iff.1 hq).2
    rw [sAt_in hk, hx]
    exact bytes_ext (by rw [h])
theorem suffix_one (r : List UInt8) (c : UInt8) : Lib.hasSuffix r [c] = decide (r.getLast? = some c) := by
  unfold Lib.hasSuffix
  rw [Bool.eq_iff_iff, List.isSuffixOf_iff_suffix, decide_eq_true_eq]
  constructor
  · rintro ⟨t, rfl⟩
    simp
  · intro h
    obtain ⟨t, rfl⟩ := List.getLast?_eq_some_iff.1 h
    exact ⟨t, rfl⟩
theorem parseFI_same (s : ByteArray) : parseFI s = parseFS s := by
  have hp := splitE_pieces s 40
  have hl : s.data.toList.length = s.size := by rw [Array.length_toList]; rfl
  have hE : (splitE s 40).length = (splP 40 s.data.toList).length := by rw [← hp, List.length_map]; rfl
  rcases first_at 40 s.data.toList with h1 | ⟨a, r, h1, h2⟩
  · have : twoB s = false := by
      unfold twoB
      rw [hE, splP_no h1]
      rfl
    unfold parseFI parseFS
    rw [cut_no h1, this]
    simp only [Bool.false_and, Bool.false_eq_true, if_false]
  · have hcut : Lib.cut s.data.toList [40] = (a, r, true) := by rw [h1]; exact cut_at h2
    have hsp : splP 40 s.data.toList = a :: splP 40 r := by rw [h1]; exact splP_at h2
    have hs0 : 0 < s.size := by rw [← hl, h1, List.length_append, List.length_cons]; omega
    by_cases h3 : (40 : UInt8) ∈ r
    · have hthree : twoB s = false := by
        unfold twoB
        rw [hE, hsp]
        rcases first_at 40 r with h4 | ⟨b, q, h4, h5⟩
        · exact absurd h3 h4
        · rw [h4, splP_at h5]
          have := splP_ne 40 q
          cases hq : splP 40 q with
          | nil => exact absurd hq this
          | cons x y => simp
      unfold parseFS
      rw [hthree]
      unfold parseFI
      rw [hcut]
      simp only [Bool.true_and, Bool.false_eq_true, if_false]
      split
      · rename_i hsuf
        rw [suffix_one] at hsuf
        have hlast : r.getLast? = some 41 := by simpa using hsuf
        have htrim : Lib.trimSuffix r [41] = r.dropLast := by
          unfold Lib.trimSuffix
          rw [suffix_one, hlast]
          simp [List.dropLast_eq_take]
        have hmem : (40 : UInt8) ∈ r.dropLast := by
          have hr : r = r.dropLast ++ [41] := by
            obtain ⟨t, rfl⟩ := List.getLast?_eq_some_iff.1 hlast
            rw [List.dropLast_concat]
          rw [hr] at h3
          simpa using h3
        have hnone : withinI ⟨(Lib.trimSuffix r [41]).toArray⟩ = none := by
          rw [htrim]
          unfold withinI
          have hsz : ¬ (ByteArray.mk r.dropLast.toArray).size = 0 := by
            show ¬ r.dropLast.toArray.size = 0
            rw [List.size_toArray]
            intro e
            have := List.eq_nil_of_length_eq_zero e
            rw [this] at hmem
            simp at hmem
          rw [if_neg hsz]
          have hB := Lib.splitB_data ⟨#[44]⟩ 0 (min 6 ((ByteArray.mk r.dropLast.toArray).size + 1) - 1) ⟨r.dropLast.toArray⟩
          obtain ⟨p, hpm, hx⟩ := splitK_mem (c := 44) (x := 40) (by decide) (k := min 6 ((ByteArray.mk r.dropLast.toArray).size + 1) - 1) hmem
          rw [show (ByteArray.mk #[44]).data.toList = [44] from rfl, show (ByteArray.mk r.dropLast.toArray).data.toList = r.dropLast by simp] at hB
          rw [← hB] at hpm
          obtain ⟨P, hP, rfl⟩ := List.mem_map.1 hpm
          refine valK_mem hP ?_
          cases hv : parseO P with
          | none => rfl
          | some v => exact absurd rfl ((parseO_bytes hv 40 hx).2.1)
        rw [hnone]
      · rfl
    · have hsp2 : splP 40 s.data.toList = [a, r] := by rw [hsp, splP_no h3]
      have e0 : sAt (splitE s 40) 0 = ⟨a.toArray⟩ := sAt_map (by rw [show (splitE s 40).map (·.data.toList) = splP 40 s.data.toList from hp, hsp2]; rfl)
      have e1 : sAt (splitE s 40) 1 = ⟨r.toArray⟩ := sAt_map (by rw [show (splitE s 40).map (·.data.toList) = splP 40 s.data.toList from hp, hsp2]; rfl)
      have hlastS : s.data.toList.getLast? = some (s[s.size - 1]'(by omega)) := by
        rw [List.getLast?_eq_getElem?, hl, List.getElem?_eq_getElem (by omega)]
        simp [ByteArray.getElem_eq_getElem_data]
      have htwo : twoB s = Lib.hasSuffix r [41] := by
        unfold twoB
        rw [hE, hsp2, dif_pos hs0, suffix_one]
        simp only [List.length_cons, List.length_nil, decide_true, Bool.true_and]
        rw [Bool.eq_iff_iff, decide_eq_true_eq, decide_eq_true_eq]
        rw [h1] at hlastS
        by_cases hr : r = []
        · subst hr
          simp at hlastS
          constructor
          · intro h; rw [← hlastS] at h; simp at h
          · intro h; simp at h
        · have hq : (a ++ 40 :: r).getLast? = r.getLast? := by
            rcases List.eq_nil_or_concat r with h | ⟨t, c, h⟩
            · exact absurd h hr
            · rw [h, List.concat_eq_append, show a ++ 40 :: (t ++ [c]) = (a ++ 40 :: t) ++ [c] by simp, List.getLast?_concat, List.getLast?_concat]
          rw [hq] at hlastS
          rw [hlastS]
          constructor
          · intro h; exact congrArg some (UInt8.toNat_inj.1 h)
          · intro h; rw [Option.some.inj h]; rfl
      unfold parseFI parseFS
      rw [hcut, htwo]
      simp only [Bool.true_and]
      cases hsuf : Lib.hasSuffix r [41]
      · simp only [Bool.false_eq_true, if_false]
      · simp only [if_true]
        have hlen : (ByteArray.mk r.toArray).size = r.length := List.size_toArray
        have hin : innerS s = ⟨(Lib.trimSuffix r [41]).toArray⟩ := by
          unfold innerS
          rw [e1]
          refine bytes_ext ?_
          rw [extL, hlen]
          unfold Lib.trimSuffix
          rw [hsuf]
          simp
        have hw := within_same ⟨a.toArray⟩ ⟨(Lib.trimSuffix r [41]).toArray⟩
        unfold withinO
        rw [hin, e0]
        revert hw
        generalize withinI ⟨(Lib.trimSuffix r [41]).toArray⟩ = x
        generalize (if (ByteArray.mk (Lib.trimSuffix r [41]).toArray).size = 0 then some [] else valK (splitE ⟨(Lib.trimSuffix r [41]).toArray⟩ 44) (splitE ⟨(Lib.trimSuffix r [41]).toArray⟩ 44).length) = y
        intro hw
        cases x with
        | none =>
          cases y with
          | none => rfl
          | some N =>
            simp only at hw ⊢
            split at hw
            · cases hw
            · rename_i hf; rw [if_neg hf]
        | some M =>
          cases y with
          | none =>
            simp only at hw ⊢
            split at hw
            · cases hw
            · rename_i hf; rw [if_neg hf]
          | some N =>
            simp only at hw ⊢
            by_cases hf : factB ⟨a.toArray⟩ M = true
            · rw [if_pos hf] at hw
              by_cases hg : factB ⟨a.toArray⟩ N = true
              · rw [if_pos hg] at hw
                rw [Option.some.inj hw]
              · rw [if_neg hg] at hw; cases hw
            · rw [if_neg hf] at hw
              by_cases hg : factB ⟨a.toArray⟩ N = true
              · rw [if_pos hg] at hw; cases hw
              · rw [if_neg hf, if_neg hg]
end Go.Proofs.YtfgigcdfmkfkjacDoor
/-
  The tested program's parseFields: what it answers is withinI.
-/
namespace Go.Proofs.YtfgigcdfmkfkjacDoor
open Go.RowKit
set_option linter.unusedVariables false

theorem app3w (L : List V3) (u : V3) : cells3 L ++ [.int .i64 u.K, .int .i64 u.N, .string u.S] = cells3 (L ++ [u]) := by simp [cells3]
theorem newsW_src (W : World) (u : V3) : ∀ j x, ([.int .i64 u.K, .int .i64 u.N, .string u.S] : List Value)[j]? = some x → (W.alloc (.cells #[.int .i64 u.K, .int .i64 u.N, .string u.S] 33)).cell? ((⟨W.heap.size, 0, none⟩ : Addr).add j) = some x := by
  obtain ⟨h0, h1, h2, -, -, -⟩ := box_cell (box_new W (.int .i64 u.K) (.int .i64 u.N) (.string u.S) 33)
  intro j x hj
  rw [Addr.add_lit, Nat.zero_add]
  match j, hj with
  | 0, hj => rw [h0]; simpa using hj
  | 1, hj => rw [h1]; simpa using hj
  | 2, hj => rw [h2]; simpa using hj
theorem newsW_one (u : V3) : ∀ x ∈ ([.int .i64 u.K, .int .i64 u.N, .string u.S] : List Value), x.oneCell' = true := by
  intro x hx
  simp only [List.mem_cons, List.not_mem_nil, or_false] at hx
  rcases hx with rfl | rfl | rfl <;> rfl
theorem isEmpty_true {S : ByteArray} (h : S.size = 0) : S.toList.isEmpty = true := by
  rw [ByteArray.toList_eq, List.isEmpty_iff]
  exact List.eq_nil_of_length_eq_zero (by rw [Array.length_toList]; exact h)
/-- what parseFields answers -/
def FieldsW (s : ByteArray) (base : Nat) (e : Ending) (w : World) : Prop := ∃ (v : Value) (b : Bool) (L : List V3),
  e = .returned (.tuple #[v, .bool b]) ∧ w.ownsRow base 33 3 v L.length (cells3 L) ∧ L.length ≤ 6 ∧ withinI s = if b then some L else none
theorem splitB_le (s : ByteArray) : (Lib.splitB ⟨#[44]⟩ 0 (min 6 (s.size + 1) - 1) s).length ≤ 6 ∧ (Lib.splitB ⟨#[44]⟩ 0 (min 6 (s.size + 1) - 1) s).length ≤ min 6 (s.size + 1) := by
  have := Lib.splitB_length_le ⟨#[44]⟩ 0 (min 6 (s.size + 1) - 1) s
  exact ⟨by omega, by omega⟩
theorem splitB_small (sep : ByteArray) : ∀ (k : Nat) (s : ByteArray), ∀ p ∈ Lib.splitB sep 0 k s, p.size ≤ s.size
  | 0, s => by
    intro p hp
    rw [Lib.splitB_zero, List.mem_singleton] at hp
    rw [hp]
    exact Nat.le_refl _
  | k + 1, s => by
    intro p hp
    unfold Lib.splitB at hp
    split at hp
    · rw [List.mem_singleton] at hp
      rw [hp]
      exact Nat.le_refl _
    · rcases List.mem_cons.1 hp with rfl | hp
      · rw [ByteArray.size_extract]; omega
      · have := splitB_small sep k _ p hp
        rw [ByteArray.size_extract] at this
        omega
theorem ownsRow_lower {w : World} {b b' n size : Nat} {T : TypeId} {v : Value} {xs : List Value} (h : w.ownsRow b T size v n xs) (hb : b' ≤ b) : w.ownsRow b' T size v n xs := by
  refine ⟨h.1, ?_⟩
  rcases h.2 with h2 | ⟨g, cap, cur, h2, h3, h4⟩
  · exact .inl h2
  · exact .inr ⟨g, cap, cur, h2, Nat.le_trans hb h3, h4⟩
theorem pieces_at (W : World) (ws : List ByteArray) (N : Nat) (T : TypeId) : RdS (W.alloc (.cells (Lib.cellsOf ws N) T)) (some ⟨W.heap.size, 0, none⟩) ws := by
  intro i hi
  refine ⟨W.heap.size, 0, rfl, ?_⟩
  have hb : (W.alloc (.cells (Lib.cellsOf ws N) T)).heap[W.heap.size]? = some (.cells (Lib.cellsOf ws N) T (0, 0)) := by rw [heap_alloc_new]
  rw [Nat.zero_add, cell_of_row _ _ i _ _ (0, 0) hb, sAt_in hi]
  unfold Lib.cellsOf
  rw [List.getElem?_toArray, List.getElem?_append_left (by simpa using hi), List.getElem?_map, List.getElem?_eq_getElem hi]
  rfl

set_option maxRecDepth 100000 in
set_option maxHeartbeats 3200000 in
theorem parseFields_any (s : ByteArray) (m : Int) (w : World) (hs : s.size ≤ 1048576) (ht : Tab w) (he : Errs w) (hm : w.cell? ⟨0, 0, none⟩ = some (.int .i64 m)) :
    Calls Tryd.prog 14 #[.string s] w fun e w' => FieldsW s w.heap.size e w' ∧ Below w.heap.size w w' := by
  obtain ⟨i0, hi, hz0, hz1, hz2⟩ := info_parts Tryd.info33
  have HNone : Hid (withinI s = none → ∀ W : World, FieldsW s w.heap.size (.returned (.tuple #[.slice none 0 0, .bool false])) W) := fun h W => ⟨_, _, [], rfl, World.ownsRow_nil _ _ _ _, by simp, h⟩
  by_cases h0 : s.size = 0
  · have hb : s.toList.isEmpty = true := isEmpty_true h0
    have HF : Hid (∀ W : World, FieldsW s w.heap.size (.returned (.tuple #[.slice none 0 0, .bool true])) W) := fun W => ⟨_, _, [], rfl, World.ownsRow_nil _ _ _ _, by simp, by unfold withinI; rw [if_pos h0]; rfl⟩
    go_enter Tryd.func14, Tryd.ntmps14
    go_wp2
    go_ret2
    exact ⟨HF.out _, Below.refl _ _⟩
  have hb : s.toList.isEmpty = false := isEmpty_false h0
  obtain ⟨ws, hws⟩ : ∃ ws, ws = Lib.splitB ⟨#[44]⟩ 0 (min 6 (s.size + 1) - 1) s := ⟨_, rfl⟩
  have HW : Hid (withinI s = valK ws ws.length) := by unfold Hid withinI; rw [if_neg h0, hws]
  have hw6 : ws.length ≤ 6 := by rw [hws]; exact (splitB_le s).1
  have hwc : ws.length ≤ min 6 (s.size + 1) := by rw [hws]; exact (splitB_le s).2
  have HSz : Hid (∀ p ∈ ws, p.size ≤ s.size) := by unfold Hid; rw [hws]; exact splitB_small _ _ s
  have hspl := Tryd.strings_SplitN s ⟨#[44]⟩ 6 m w (by omega) hm (by decide) (by decide) (by decide)
  rw [← hws] at hspl
  clear hws
  have hrd := pieces_at w ws (min 6 (s.size + 1)) 9
  have hb1 := below_al w (.cells (Lib.cellsOf ws (min 6 (s.size + 1))) 9)
  have HRd := hide hrd
  have HB1 := hide hb1
  have hl1 : w.heap.size < (w.alloc (.cells (Lib.cellsOf ws (min 6 (s.size + 1))) 9)).heap.size := by simp
  clear hrd hb1
  go_enter Tryd.func14, Tryd.ntmps14
  go_wp2_with fail
  refine hspl.mono ?_
  rintro e w1 ⟨rfl, rfl⟩
  clear hspl
  generalize w.alloc (.cells (Lib.cellsOf ws (min 6 (s.size + 1))) 9) = w1 at *
  go_wp2
  have ht1 : Hid (Tab w1 ∧ Errs w1) := ⟨ht.later HB1.out (Nat.le_refl _), he.later HB1.out (Nat.le_refl _)⟩
  go_loopw [4, 14] (fun v i wr => ∃ (L : List V3), L.length ≤ ws.length ∧ i = .int .i64 (L.length : Int) ∧ wr.ownsRow w1.heap.size 33 3 v L.length (cells3 L) ∧ valK ws L.length = some L ∧ Below w1.heap.size w1 wr) (fun _ i _ => ws.length - (intOf i).toNat)
  case atStart => exact ⟨[], Nat.zero_le _, rfl, World.ownsRow_nil _ _ _ _, rfl, Below.refl _ _⟩
  case round =>
    obtain ⟨L, hL, rfl, hown, hval, hbel⟩ := hrel
    have HVal := hide hval
    clear hval
    obtain ⟨g, c, e0, -, -, -, -⟩ := rdV_owns hown
    by_cases hlt : L.length < ws.length
    · obtain ⟨b0, of0, e1, hc⟩ := HRd.out L.length hlt
      have hps : (sAt ws L.length).size ≤ s.size := by rw [sAt_in hlt]; exact HSz.out _ (List.getElem_mem hlt)
      obtain ⟨p, hp⟩ : ∃ p, p = sAt ws L.length := ⟨_, rfl⟩
      rw [← hp] at hc hps
      have HP := hide hp
      clear hp
      simp only [Option.some.injEq, Addr.mk.injEq] at e1
      obtain ⟨rfl, rfl, -⟩ := e1
      rw [Nat.zero_add] at hc
      have hc2 : wr.cell? ⟨w.heap.size, L.length, none⟩ = some (.string p) := by rw [hbel.cell hl1]; exact hc
      have hx0 : (0 : Int) ≤ (L.length : Int) := by omega
      have hx1 : (L.length : Int) < (ws.length : Int) := by omega
      have hT : Hid (Tab wr ∧ Errs wr) := ⟨ht1.out.1.later hbel (Nat.le_refl _), ht1.out.2.later hbel (Nat.le_refl _)⟩
      clear hc
      subst e0
      go_wp2_with fail
      refine (implParse_any p _ (by omega) hT.out.1 hT.out.2).mono ?_
      rintro e w3 ⟨rfl, hb3⟩
      have hbel3 : Below w1.heap.size w1 w3 := hbel.trans (hb3.mono hbel.size)
      have hown3 := ownsRow_below hown hb3
      clear hb3 hbel hown hc2
      cases hv : parseO p with
      | none =>
        have HF := hide (HNone.out (HW.out.trans (valK_bad hlt (by rw [← HP.out]; exact hv))))
        clear hv
        unfold ansO
        go_wp2
        go_ret2
        exact ⟨HF.out _, (HB1.out.trans ((hbel3.alloc hbel3.size _).mono (by omega)))⟩
      | some v =>
        obtain ⟨K, N, S⟩ := v
        have HG2 := hide (valK_hit HVal.out (by rw [← HP.out]; exact hv))
        have hown4 := (hown3.alloc (.cells #[.int .i64 K, .int .i64 N, .string S] 33)).alloc (.cells #[.int .i64 K, .int .i64 N, .string S] 33)
        have HO4 := hide hown4
        have hsrc := newsW_src (w3.alloc (.cells #[.int .i64 K, .int .i64 N, .string S] 33)) ⟨K, N, S⟩
        have HSrc := hide hsrc
        have HB4 := hide ((hbel3.alloc hbel3.size (.cells #[.int .i64 K, .int .i64 N, .string S] 33)).alloc (by have := hbel3.size; simp; omega) (.cells #[.int .i64 K, .int .i64 N, .string S] 33))
        clear hown3 hown4 hsrc hbel3 hv
        unfold ansO
        go_wp2_with (at_builtin; refine wpList_append_lies _ rfl (.tmp 25) (.tmp 27) 22 rfl w1.heap.size 33 i0 (.agg #[.int .i64 0, .int .i64 0, .string ⟨#[]⟩]) 3 32 Tryd.underlying22 hi hz0 hz1 hz2 rfl (by omega) (.slice g L.length c) L.length (cells3 L) rfl HO4.out ⟨(w3.alloc (.cells #[.int .i64 K, .int .i64 N, .string S] 33)).heap.size, 0, none⟩ 1 1 [.int .i64 K, .int .i64 N, .string S] ?hx rfl HSrc.out (newsW_one ⟨K, N, S⟩) (by omega) (by unfold maxLen; omega) (by omega) HB4.out.size _ rfl ?_)
        case hx => simp [Act.eval]
        intro g5 c5 w5 ho5 hg5 hat5 hlt5
        have HO5 : Hid (w5.ownsRow w1.heap.size 33 3 (.slice (some ⟨g5, 0, none⟩) (L.length + 1) c5) (L ++ [(⟨K, N, S⟩ : V3)]).length (cells3 (L ++ [⟨K, N, S⟩]))) := by
          unfold Hid
          rw [← app3w, List.length_append]
          exact ho5
        have HB5 := hide (HB4.out.grown hg5 HB4.out.size (fun k hk => (HO4.out.lt k hk).1))
        clear ho5 hg5 hat5 hlt5 HO4 HSrc HB4
        go_wp2
        go_roundw
        case rel => exact ⟨L ++ [⟨K, N, S⟩], by simp; omega, by simp, HO5.out, by rw [List.length_append]; exact HG2.out, HB5.out⟩
        case measure => simp [intOf]; omega
    · obtain hLm : L.length = ws.length := by omega
      have HF : Hid (FieldsW s w.heap.size (.returned (.tuple #[.slice g L.length c, .bool true])) wr) := ⟨_, _, L, rfl, by rw [← e0]; exact ownsRow_lower hown (by omega), by omega, HW.out.trans (by rw [← hLm]; exact HVal.out)⟩
      rw [hLm] at HF
      have hx1 : ¬ ((L.length : Int) < (ws.length : Int)) := by omega
      subst e0
      go_wp2
      go_ret2
      exact ⟨HF.out, HB1.out.trans (hbel.mono (by omega))⟩
end Go.Proofs.YtfgigcdfmkfkjacDoor
