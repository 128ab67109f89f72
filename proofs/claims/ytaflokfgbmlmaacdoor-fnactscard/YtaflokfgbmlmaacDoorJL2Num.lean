/-
  What the model's text of a number is: itoa of the number; nothing that was there has turned.
-/
import Derived.Test.YtaflokfgbmlmaacDoorJoined2
import Derived.Test.YtaflokfgbmlmaacDoorJoined1
import Derived.Test.YtaflokfgbmlmaacDoorJValP
import Derived.Lib.ItoaLen
import Derived.Laws.IdiomStrings
namespace Go.Proofs.YtaflokfgbmlmaacDoor
open Go.RowKit
set_option linter.unusedVariables false

theorem conv_one (q : Nat) (c : UInt8) (d : Int) (hd : d = (c.toNat : Int)) (W : World) (h : W.cell? ⟨q, 0, none⟩ = some (.int .u8 d)) :
    (convert 33 9 (.slice (some ⟨q, 0, none⟩) 1 1)).run Tryd.prog W = .ok (.string ⟨#[c]⟩) W := by
  subst hd
  have := run_convert_bytes_back (P := Tryd.prog) W 33 9 5 ⟨q, 0, none⟩ 1 [c] Tryd.underlying33 Tryd.underlying5 Tryd.underlying9 (fun j hj => by
    obtain rfl : j = 0 := by simpa using hj
    rw [Addr.add_lit, Nat.add_zero, h]
    simp)
  simpa using this
theorem digit_byte {d : Nat} (h : d < 10) : ∃ c : UInt8, 48 + (d : Int) = (c.toNat : Int) ∧ UInt8.ofNat (48 + d) = c := ⟨_, by simp; omega, rfl⟩
theorem dec_snoc {u : Nat} (h : ¬ u < 10) : (⟨(Lib.decDigits (u / 10)).toArray⟩ : ByteArray) ++ ⟨#[UInt8.ofNat (48 + u % 10)]⟩ = ⟨(Lib.decDigits u).toArray⟩ := by
  rw [show Lib.decDigits u = Lib.decDigits (u / 10) ++ [UInt8.ofNat (48 + u % 10)] by rw [Lib.decDigits, dif_neg h]]
  apply ByteArray.ext
  rw [ByteArray.data_append]
  simp

theorem dec_size {u : Nat} (h : u ≤ 1000000000) : (⟨(Lib.decDigits u).toArray⟩ : ByteArray).size ≤ 10 := by
  have h1 := Lib.decDigits_length u
  have h2 := nDigits_10 u h
  show (Lib.decDigits u).toArray.size ≤ 10
  simp; omega

theorem below_d {w w' : World} (hb : Below w.drew.heap.size w.drew w') : Below w.heap.size w w' := ((Below.refl w.heap.size w).drew).trans hb
theorem below_da {w w' : World} (hb : Below w.drew.heap.size w.drew w') (o : Obj) : Below w.heap.size w (w'.alloc o) := (below_d hb).alloc (below_d hb).size _

set_option maxRecDepth 100000 in
set_option maxHeartbeats 1600000 in
theorem l2Num_pos (u : Nat) : ∀ (x : Int) (w : World), x = (u : Int) → u ≤ 1000000000 →
    Calls Tryd.prog 40 #[.int .i64 x] w fun e w' => ∃ s, e = .returned (.string s) ∧ s.size ≤ 10 ∧ Hid (s = ⟨(Lib.decDigits u).toArray⟩) ∧ Below w.heap.size w w' := by
  induction u using Nat.strongRecOn with
  | _ u ih =>
    intro x w hx hu
    subst hx
    have HZ := hide (dec_size hu)
    by_cases h : u < 10
    · obtain ⟨c, hc, hb⟩ := digit_byte h
      have HD : Hid (Lib.decDigits u = [c]) := by unfold Hid; rw [Lib.decDigits_one h, hb]
      have hconv := conv_one w.heap.size c _ hc (w.alloc (.cells #[.int .u8 (48 + (u : Int))] 5)) (by simp)
      have hn0 : ¬ ((u : Int) < 0) := by omega
      have hn1 : (u : Int) < 10 := by omega
      clear ih hc hb
      go_enter Tryd.func40, Tryd.ntmps40
      go_wp2
      go_ret
      exact ⟨⟨#[c]⟩, rfl, show (1 : Nat) ≤ 10 by omega, by unfold Hid; rw [HD.out], by go_grown⟩
    · obtain ⟨c, hc, hb⟩ := digit_byte (show u % 10 < 10 by omega)
      have HD := hide (dec_snoc h)
      rw [hb] at HD
      have HI := hide (fun (x : Int) (w : World) (hx : x = ((u / 10 : Nat) : Int)) => ih (u / 10) (by omega) x w hx (by omega))
      clear ih
      have hn0 : ¬ ((u : Int) < 0) := by omega
      have hn1 : ¬ ((u : Int) < 10) := by omega
      have hv : IntKind.u8.wrap (IntKind.i64.wrap (48 + (u : Int).tmod 10)) = (c.toNat : Int) := by rw [Int.tmod_eq_emod_of_nonneg (by omega), IntKind.wrap_i64, IntKind.wrap_u8]; omega
      have hconv := fun q W => conv_one q c _ hv W
      have hc1 : (ByteArray.mk #[c]).size = 1 := rfl
      clear hv hc hb
      go_enter Tryd.func40, Tryd.ntmps40
      go_wp2_with fail
      go_region_with (go_at_call 40; refine (HI.out _ _ ?_).mono ?_; (first | omega | (rw [IntKind.wrap_i64]; omega)); rintro e w' ⟨s, rfl, hs, HS, hb⟩; obtain ⟨hc, hf⟩ := bcell hb)
      all_goals go_wp2
      all_goals go_ret
      all_goals refine ⟨s ++ ⟨#[c]⟩, rfl, by rw [HS.out, HD.out]; exact HZ.out, by unfold Hid; rw [HS.out]; exact HD.out, ?_⟩
      all_goals first | (with_reducible exact below_box hb) | (with_reducible exact below_da hb _) | (with_reducible exact below_d hb)

set_option maxHeartbeats 1600000 in
theorem l2Num_any (n : Int) (w : World) (h : -1000000000 ≤ n) (h' : n ≤ 1000000000) :
    Calls Tryd.prog 40 #[.int .i64 n] w fun e w' => ∃ s, e = .returned (.string s) ∧ s.size ≤ 11 ∧ Hid (s = ⟨(Lib.itoa n).toArray⟩) ∧ Below w.heap.size w w' := by
  by_cases hn : n < 0
  · have HI := hide (itoa_neg hn)
    go_enter Tryd.func40, Tryd.ntmps40
    go_wp2_with fail
    refine (l2Num_pos n.natAbs _ _ (by omega) (by omega)).mono ?_
    rintro e w1 ⟨s, rfl, hs, HS, hb⟩
    have hc1 : (ByteArray.mk #[45]).size = 1 := rfl
    have HT : Hid (⟨#[45]⟩ ++ s = ⟨(Lib.itoa n).toArray⟩) := by
      unfold Hid
      rw [HS.out, HI.out]
      apply ByteArray.ext
      rw [ByteArray.data_append]
      simp
    have HZ : Hid ((⟨#[45]⟩ ++ s : ByteArray).size ≤ 11) := by
      unfold Hid
      rw [ByteArray.size_append, hc1]; omega
    go_wp2
    go_ret
    exact ⟨⟨#[45]⟩ ++ s, rfl, HZ.out, HT, hb⟩
  · have HI := hide (itoa_pos hn)
    exact (l2Num_pos n.toNat n w (by omega) (by omega)).mono fun e w' ⟨s, h1, h2, h3, h4⟩ => ⟨s, h1, by omega, by unfold Hid; rw [h3.out, HI.out], h4⟩
end Go.Proofs.YtaflokfgbmlmaacDoor
