/-
  What the text of a fact is: its kind, and the texts of its values between brackets; the model's and the tested one alike.
-/
import Derived.Test.YtaflokfgbmlmaacDoorJTxV
import Derived.Test.YtaflokfgbmlmaacDoorJFactOk
import Derived.Test.YtaflokfgbmlmaacDoorJoined1
import Derived.Lib.Join
import Derived.Deep.AppendLies
import Derived.Deep.RegionHeld3
namespace Go.Proofs.YtaflokfgbmlmaacDoor
open Go.RowKit
set_option linter.unusedVariables false

/-- the texts with commas between -/
def joinV (L : List V3) : List UInt8 := Lib.join (L.map fun v => v.tx.data.toList) [44]
theorem joinV_nil : joinV [] = [] := rfl
theorem joinV_snoc (L : List V3) (v : V3) : joinV (L ++ [v]) = if L = [] then v.tx.data.toList else joinV L ++ (44 :: v.tx.data.toList) := by
  unfold joinV Lib.join
  induction L with
  | nil => simp [List.intercalate]
  | cons a r ih =>
    rw [if_neg (by simp)]
    cases r with
    | nil => simp [List.intercalate]
    | cons b s =>
      rw [if_neg (by simp)] at ih
      simp only [List.map_append, List.map_cons, List.map_nil, List.cons_append] at ih ⊢
      have e : ∀ (p q : List UInt8) (t : List (List UInt8)), List.intercalate [44] (p :: q :: t) = p ++ (44 :: List.intercalate [44] (q :: t)) := fun p q t => by simp [List.intercalate, List.intersperse]
      rw [e, e, ih]
      simp
theorem joinV_take {L : List V3} (h : ∀ v ∈ L, v.ok = true) : ∀ k, k ≤ L.length → (joinV (L.take k)).length ≤ 23 * k
  | 0, _ => by simp [joinV_nil]
  | k + 1, hk => by
    have ih := joinV_take h k (by omega)
    have h2 := tx_size (h L[k] (List.getElem_mem (by omega)))
    have e : L[k].tx.data.toList.length = L[k].tx.size := by rw [Array.length_toList]; rfl
    rw [List.take_succ_eq_append_getElem (by omega), joinV_snoc]
    split
    · omega
    · simp only [List.length_append, List.length_cons]; omega
def factT (kd : ByteArray) (L : List V3) : ByteArray := if factB kd L then kd ++ (⟨#[40]⟩ ++ ⟨(joinV L).toArray⟩ ++ ⟨#[41]⟩) else ⟨#[]⟩

theorem ok_at {L : List V3} (h : ∀ v ∈ L, v.ok = true) {k : Nat} (hk : k < L.length) : (vAt L k).ok = true := by rw [vAt_in hk]; exact h _ (List.getElem_mem hk)

set_option maxRecDepth 100000 in
set_option maxHeartbeats 1600000 in
theorem l3ValsText_any (a : Option Addr) (cap : Nat) (L : List V3) (w : World) (hr : RdV w a L) (h5 : L.length ≤ 5) (hok : ∀ v ∈ L, v.ok = true) :
    Calls Tryd.prog 77 #[.slice a L.length cap] w fun e w' =>
      e = .returned (.string (⟨#[40]⟩ ++ ⟨(joinV L).toArray⟩ ++ ⟨#[41]⟩)) ∧ Below w.heap.size w w' := by
  have HOk := hide hok
  clear hok
  obtain ⟨n, hN⟩ : ∃ n, n = L.length := ⟨_, rfl⟩
  rw [← hN] at h5 ⊢
  have HN := hide hN
  have c40 : (ByteArray.mk #[40]).size = 1 := rfl
  have c41 : (ByteArray.mk #[41]).size = 1 := rfl
  have c44 : (ByteArray.mk #[44]).size = 1 := rfl
  clear hN
  go_enter Tryd.func77, Tryd.ntmps77
  go_wp2
  go_loopw [3, 4] (fun s i wr => ∃ (k : Nat) (t : ByteArray), k ≤ n ∧ i = .int .i64 k ∧ s = .string t ∧ t.size ≤ 1 + 23 * k ∧ t = ⟨#[40]⟩ ++ ⟨(joinV (L.take k)).toArray⟩ ∧ Below w.heap.size w wr) (fun _ i _ => n - (intOf i).toNat)
  case atStart => exact ⟨0, ⟨#[40]⟩, Nat.zero_le _, rfl, rfl, by omega, by rw [List.take_zero, joinV_nil]; rfl, Below.refl _ _⟩
  case round =>
    obtain ⟨k, t, hk, rfl, rfl, hts, ht, hbel⟩ := hrel
    have HT := hide ht
    clear ht
    by_cases hlt : k < n
    · obtain ⟨b, off, hab, hbw, hc⟩ := hr.open (by rw [← HN.out]; omega)
      obtain ⟨c0, c1, c2⟩ := hc k (by rw [← HN.out]; exact hlt)
      clear hc
      subst hab
      rw [← hbel.cell (p := ⟨b, off + k * 3, none⟩) hbw] at c0
      rw [← hbel.cell (p := ⟨b, off + k * 3 + 1, none⟩) hbw] at c1
      rw [← hbel.cell (p := ⟨b, off + k * 3 + 2, none⟩) hbw] at c2
      have hv := ok_at HOk.out (show k < L.length by rw [← HN.out]; exact hlt)
      have hxs := tx_size hv
      have HTake : Hid (L.take (k + 1) = L.take k ++ [vAt L k]) := by unfold Hid; rw [List.take_succ_eq_append_getElem (by rw [← HN.out]; exact hlt), vAt_in]
      have HV := hide (fun W => l2Text_any (vAt L k).K (vAt L k).N (vAt L k).S W hv)
      rw [show textV (vAt L k).K (vAt L k).N (vAt L k).S = (vAt L k).tx from rfl] at HV
      by_cases h0 : k = 0
      · subst h0
        have HJ : Hid (t ++ (vAt L 0).tx = ⟨#[40]⟩ ++ ⟨(joinV (L.take 1)).toArray⟩) := by
          unfold Hid
          have h1 := HTake.out
          rw [Nat.zero_add, List.take_zero, List.nil_append] at h1
          rw [h1, HT.out, List.take_zero, joinV_nil]
          have e : joinV [vAt L 0] = (vAt L 0).tx.data.toList := by have := joinV_snoc [] (vAt L 0); simpa using this
          rw [e]
          apply ByteArray.ext; apply Array.toList_inj.1; simp
        simp only [Nat.zero_mul, Nat.add_zero] at c0 c1 c2
        generalize (vAt L 0).tx = x at hxs HV HJ
        have hts1 : t.size ≤ 1 := by omega
        clear hv hts
        go_wp2_with fail
        refine (HV.out _).mono ?_
        rintro e w2 ⟨rfl, hb2⟩
        have hbel2 : Below w.heap.size w w2 := hbel.trans (hb2.mono hbel.size)
        clear hb2 hbel c0 c1 c2
        go_wp2
        go_roundw
        case rel => exact ⟨1, t ++ x, by omega, by go_num, rfl, by rw [ByteArray.size_append]; omega, HJ.out, hbel2⟩
        case measure => simp [intOf]; omega
      · have hne : L.take k ≠ [] := fun e => by have := congrArg List.length e; rw [List.length_take, List.length_nil] at this; have := HN.out; omega
        have HJ : Hid (t ++ ⟨#[44]⟩ ++ (vAt L k).tx = ⟨#[40]⟩ ++ ⟨(joinV (L.take (k + 1))).toArray⟩) := by
          unfold Hid
          rw [HTake.out, joinV_snoc, if_neg hne, HT.out]
          apply ByteArray.ext; apply Array.toList_inj.1; simp
        generalize (vAt L k).tx = x at hxs HV HJ
        have hkp : (0 : Int) < (k : Int) := by omega
        clear hv hne h0
        go_wp2_with fail
        refine (HV.out _).mono ?_
        rintro e w2 ⟨rfl, hb2⟩
        have hbel2 : Below w.heap.size w w2 := hbel.trans (hb2.mono hbel.size)
        have hsz2 : (t ++ ⟨#[44]⟩ : ByteArray).size = t.size + 1 := by rw [ByteArray.size_append, c44]
        clear hb2 hbel c0 c1 c2
        go_wp2
        go_roundw
        case rel => exact ⟨k + 1, t ++ ⟨#[44]⟩ ++ x, by omega, by go_num, rfl, by rw [ByteArray.size_append, hsz2]; omega, HJ.out, hbel2⟩
        case measure => simp [intOf]; omega
    · obtain rfl : k = n := by omega
      have HT2 : Hid (t = ⟨#[40]⟩ ++ ⟨(joinV L).toArray⟩) := by
        have := HT.out
        rw [HN.out, List.take_length] at this
        exact this
      go_wp2
      go_ret
      exact ⟨by rw [← HT2.out]; rfl, hbel⟩
end Go.Proofs.YtaflokfgbmlmaacDoor
