/-
  What the model's writer of facts makes: a row of the call's own that holds the bytes, and behind them encF of the fact; nothing that was there has turned.
-/
import Derived.Test.YtddcmifebhdgfabEncF
import Derived.Test.YtddcmifebhdgfabPutValS
import Derived.Test.YtddcmifebhdgfabBox2
import Derived.Test.YtddcmifebhdgfabKeepF
import Derived.Deep.RegionHeld3
namespace Go.Proofs.Ytddcmifebhdgfab
open Go.RowKit
set_option linter.unusedVariables false

theorem specPutVal_o (g cap : Nat) (K N : Int) (S : ByteArray) (bs E : List UInt8) (w : World) (h : Own w g cap bs) (hn : bs.length ≤ 33554000) (hs : S.size ≤ 1048580) (hE : bs ++ encV K N S = E) :
    Calls Try.prog 48 #[.slice (some ⟨g, 0, none⟩) bs.length cap, .agg #[.int .i64 K, .int .i64 N, .string S]] w fun e w' =>
      ∃ g' c', e = .returned (.slice (some ⟨g', 0, none⟩) E.length c') ∧ w.heap.size ≤ g' ∧ Own w' g' c' E ∧ Below w.heap.size w w' := by
  subst hE
  exact (specPutVal_some _ cap K N S bs w h.rd hn hs).mono fun e w' ⟨v, he, ho, hb⟩ => by
    obtain ⟨g', c', hv, hg, ho'⟩ := owns_own ho (by have := encV_pos K N S; simp; omega)
    exact ⟨g', c', by rw [he, hv], hg, ho', hb⟩
theorem specPutNum_o (p : Addr) (cap : Nat) (n : Int) (bs E : List UInt8) (w : World) (h : Rd w (some p) bs) (hn : bs.length ≤ 33554400) (hE : bs ++ encN n = E) :
    Calls Try.prog 47 #[.slice (some p) bs.length cap, .int .i64 n] w fun e w' =>
      ∃ g' c', e = .returned (.slice (some ⟨g', 0, none⟩) E.length c') ∧ w.heap.size ≤ g' ∧ Own w' g' c' E ∧ Below w.heap.size w w' := by
  subst hE
  exact (specPutNum_some p cap n bs w h hn).mono fun e w' ⟨v, he, ho, hb⟩ => by
    obtain ⟨g', c', hv, hg, ho'⟩ := owns_own ho (by have := encN_pos n; simp; omega)
    exact ⟨g', c', by rw [he, hv], hg, ho', hb⟩
theorem specPutText_o (p : Addr) (cap : Nat) (s : ByteArray) (bs E : List UInt8) (w : World) (h : Rd w (some p) bs) (hn : bs.length ≤ 33554300) (hs : s.size ≤ 1048580) (hE : bs ++ encT s = E) :
    Calls Try.prog 27 #[.slice (some p) bs.length cap, .string s] w fun e w' =>
      ∃ g' c', e = .returned (.slice (some ⟨g', 0, none⟩) E.length c') ∧ w.heap.size ≤ g' ∧ Own w' g' c' E ∧ Below w.heap.size w w' := by
  subst hE
  exact (specPutText_some p cap s bs w h hn hs).mono fun e w' ⟨v, he, ho, hb⟩ => by
    obtain ⟨g', c', hv, hg, ho'⟩ := owns_own ho (by have := encN_pos s.size; simp [encT]; omega)
    exact ⟨g', c', by rw [he, hv], hg, ho', hb⟩

set_option maxRecDepth 100000 in
set_option maxHeartbeats 1600000 in
theorem l3PutVals_any (p : Addr) (cap : Nat) (b : Option Addr) (cb : Nat) (L : List V3) (bs F : List UInt8) (w : World) (h : Rd w (some p) bs) (hr : RdV w b L) (hn : bs.length ≤ 2097200) (hs : szL L ≤ 1048580) (hF : bs ++ (encN L.length ++ encVs L) = F) :
    Calls Try.prog 26 #[.slice (some p) bs.length cap, .slice b L.length cb] w fun e w' =>
      ∃ g' c', e = .returned (.slice (some ⟨g', 0, none⟩) F.length c') ∧ w.heap.size ≤ g' ∧ Own w' g' c' F ∧ Below w.heap.size w w' := by
  have hlL : L.length ≤ 1048580 := by unfold szL at hs; omega
  have hel := encN_length L.length
  obtain ⟨E, HE⟩ : ∃ E : Nat → List UInt8, Hid (∀ k, E k = bs ++ (encN L.length ++ encVs (L.take k))) := ⟨_, fun k => rfl⟩
  have HE0 : Hid (bs ++ encN L.length = E 0) := by unfold Hid; rw [HE.out 0]; simp [encVs]
  have HEn : Hid (E L.length = F) := by unfold Hid; rw [HE.out, List.take_length]; exact hF
  have HEs : Hid (∀ k, k < L.length → E k ++ encV (vAt L k).K (vAt L k).N (vAt L k).S = E (k + 1)) := fun k hk => by
    rw [HE.out, HE.out, encVs_step hk]; simp
  have HEl : Hid (∀ k, (E k).length ≤ 2097210 + 12 * 1048580) := fun k => by
    rw [HE.out]
    have := encVs_take L k
    simp only [List.length_append]; omega
  have HS : Hid (∀ k, k < L.length → (vAt L k).S.size ≤ 1048580) := fun k hk => by
    rw [vAt_in hk]
    have := szL_mem (List.getElem_mem hk)
    omega
  clear HE hF hs hel
  obtain ⟨n, hN⟩ : ∃ n, n = L.length := ⟨_, rfl⟩
  rw [← hN] at hlL HE0 HEn ⊢
  have HN := hide hN
  clear hN
  go_enter Try.func26, Try.ntmps26
  go_wp2_with fail
  refine (specPutNum_o p cap n bs _ w h (by omega) HE0.out).mono ?_
  rintro e w1 ⟨g1, c1, rfl, hg1, o1, b1⟩
  go_wp2
  go_loopw [0, 5] (fun v i wr => ∃ (k g c : Nat), k ≤ n ∧ i = .int .i64 k ∧ v = .slice (some ⟨g, 0, none⟩) (E k).length c ∧ w.heap.size ≤ g ∧ Own wr g c (E k) ∧ Below w.heap.size w wr) (fun _ i _ => n - (intOf i).toNat)
  case atStart => exact ⟨0, g1, c1, Nat.zero_le _, rfl, rfl, hg1, o1, b1⟩
  case round =>
    obtain ⟨k, g, c, hk, rfl, rfl, hg, ho, hbel⟩ := hrel
    by_cases hlt : k < n
    · obtain ⟨b1', o1', e1, hbw1, hc1⟩ := hr.open (by rw [← HN.out]; omega)
      obtain ⟨c0, c1', c2⟩ := hc1 k (by rw [← HN.out]; exact hlt)
      clear hc1
      subst e1
      rw [← hbel.cell (p := ⟨b1', o1' + k * 3, none⟩) hbw1] at c0
      rw [← hbel.cell (p := ⟨b1', o1' + k * 3 + 1, none⟩) hbw1] at c1'
      rw [← hbel.cell (p := ⟨b1', o1' + k * 3 + 2, none⟩) hbw1] at c2
      have hle := HEl.out k
      go_wp2_with fail
      refine (specPutVal_o g c _ _ _ (E k) _ wr ho (by omega) (HS.out k (by rw [← HN.out]; exact hlt)) (HEs.out k (by rw [← HN.out]; exact hlt))).mono ?_
      rintro e w2 ⟨g2, c2', rfl, hg2, o2, b2⟩
      have hbel2 : Below w.heap.size w w2 := hbel.trans (b2.mono hbel.size)
      have hg2' : w.heap.size ≤ g2 := Nat.le_trans hbel.size hg2
      clear b2 hbel c0 c1' c2 ho
      have HO := hide o2
      clear o2
      go_wp2
      go_roundw
      case rel => exact ⟨k + 1, g2, c2', by omega, by go_num, rfl, hg2', HO.out, hbel2⟩
      case measure => simp [intOf]; omega
    · obtain rfl : k = n := by omega
      rw [HEn.out] at ho ⊢
      have HO := hide ho
      clear ho
      go_wp2
      go_ret
      exact ⟨g, c, rfl, hg, HO.out, hbel⟩

theorem keepP {w0 W w' : World} {B : Nat} {p0 p1 : Addr} {v0 v1 : Value} {a : Option Addr} {L : List V3} (hb : Below W.heap.size W w')
    (h : W.cell? p0 = some v0 ∧ W.cell? p1 = some v1 ∧ RdV W a L ∧ Below B w0 W ∧ B ≤ W.heap.size) :
    w'.cell? p0 = some v0 ∧ w'.cell? p1 = some v1 ∧ RdV w' a L ∧ Below B w0 w' ∧ B ≤ w'.heap.size := by
  obtain ⟨h0, h1, h2, h3, h4⟩ := h
  have k : ∀ {a : Addr} {v : Value}, W.cell? a = some v → w'.cell? a = some v := fun {a v} h => by rw [hb.cell (World.block_lt_of_cell? W _ h)]; exact h
  exact ⟨k h0, k h1, h2.below hb, h3.trans (hb.mono h4), Nat.le_trans h4 hb.size⟩
theorem rdP {w0 W : World} {B : Nat} {p0 p1 : Addr} {v0 v1 : Value} {a : Option Addr} {L : List V3}
    (h : W.cell? p0 = some v0 ∧ W.cell? p1 = some v1 ∧ RdV W a L ∧ Below B w0 W ∧ B ≤ W.heap.size) : RdV W a L := h.2.2.1

set_option maxRecDepth 100000 in
set_option maxHeartbeats 3200000 in
theorem specPutFact_any (p : Addr) (cap : Nat) (kd : ByteArray) (b : Option Addr) (cb : Nat) (L : List V3) (bs F : List UInt8) (w : World) (h : Rd w (some p) bs) (hr : RdV w b L) (hn : bs.length ≤ 1048580) (hk : kd.size ≤ 1048580) (hs : szL L ≤ 1048580) (hF : bs ++ encF kd L = F) :
    Calls Try.prog 11 #[.slice (some p) bs.length cap, .agg #[.string kd, .slice b L.length cb]] w fun e w' =>
      ∃ g' c', e = .returned (.slice (some ⟨g', 0, none⟩) F.length c') ∧ w.heap.size ≤ g' ∧ Own w' g' c' F ∧ Below w.heap.size w w' := by
  have hl := encT_length kd
  obtain ⟨E, HE⟩ : ∃ E, Hid (bs ++ encT kd = E) := ⟨_, rfl⟩
  have hE : E.length ≤ bs.length + 6 + kd.size := by rw [← HE.out]; simp; omega
  have HF : Hid (E ++ (encN L.length ++ encVs L) = F) := by unfold Hid; rw [← HE.out, ← hF]; simp [encF]
  clear hF hl
  have b0 := below_al w (.cells #[.string kd, .slice b L.length cb] 29)
  have hX := box2_new w (.string kd) (.slice b L.length cb) 29
  obtain ⟨x0, x1, -, -⟩ := box2_cell hX
  have r0 := hr.below b0
  have h0 : Rd (w.alloc (.cells #[.string kd, .slice b L.length cb] 29)).drew (some p) bs := h.below b0.drew
  have H0 := hide h0
  have z0 : w.heap.size ≤ (w.alloc (.cells #[.string kd, .slice b L.length cb] 29)).heap.size := b0.size
  clear hX h0 h hr
  go_enter Try.func11, Try.ntmps11
  go_wp2_with fail
  generalize w.alloc (.cells #[.string kd, .slice b L.length cb] 29) = w1 at b0 x0 x1 r0 H0 z0 ⊢
  go_region_held3 (fun W => W.cell? ⟨w.heap.size, 0, none⟩ = some (.string kd) ∧ W.cell? ⟨w.heap.size, 1, none⟩ = some (.slice b L.length cb) ∧ RdV W b L ∧ Below w.heap.size w W ∧ w.heap.size ≤ W.heap.size) (first | exact ⟨x0, x1, r0.heap rfl, b0.drew, z0⟩ | exact keepP (by assumption) (by assumption))
    (first | (go_at_call 27; refine (specPutText_o p cap kd bs E _ ?_ (by omega) hk HE.out).mono ?_; (with_reducible exact H0.out); rintro e w2 ⟨g2, c2, rfl, hg2, o2, b2⟩) | (go_at_call 26; refine (l3PutVals_any _ c2 b cb L E F _ ?_ (rdP (by assumption)) (by omega) hs HF.out).mono ?_; (with_reducible exact o2.rd); rintro e w3 ⟨g3, c3, rfl, hg3, o3, b3⟩))
  all_goals
    have B3 : Below w.heap.size w w3 := (b0.drew.trans (b2.mono z0)).trans (b3.mono (Nat.le_trans z0 b2.size))
    have hg3' : w.heap.size ≤ g3 := Nat.le_trans (Nat.le_trans z0 b2.size) hg3
    have HO := hide o3
    clear o2 o3 b2 b3
    go_wp2
    go_ret
    exact ⟨g3, c3, rfl, hg3', HO.out, B3⟩
end Go.Proofs.Ytddcmifebhdgfab
