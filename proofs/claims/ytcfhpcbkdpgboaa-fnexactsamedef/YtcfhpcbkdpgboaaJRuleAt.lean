/-
  RuleAt: the place of the first rule of a name (ixOf), plainly; the tested one, and the model's.
-/
import Derived.Test.YtcfhpcbkdpgboaaJDefRow
import Derived.Test.YtcfhpcbkdpgboaaJoined1
import Derived.Test.YtcfhpcbkdpgboaaJoined2
namespace Go.Proofs.Ytcfhpcbkdpgboaa
open Go.RowKit
set_option linter.unusedVariables false

/-- the place of the first rule of this name, behind i -/
def ixFrom (n : ByteArray) : List RE → Nat → Int
  | [], _ => -1
  | x :: r, i => if x.nm = n then (i : Int) else ixFrom n r (i + 1)
def ixOf (L : List RE) (n : ByteArray) : Int := ixFrom n L 0
theorem ix_skip {L : List RE} {n : ByteArray} : ∀ k, k ≤ L.length → (∀ j, j < k → (eAt L j).nm ≠ n) → ixOf L n = ixFrom n (L.drop k) k
  | 0, _, _ => rfl
  | k + 1, hk, h => by
    rw [ix_skip k (by omega) (fun j hj => h j (by omega)), List.drop_eq_getElem_cons (by omega), ixFrom, if_neg (by rw [← eAt_in (by omega)]; exact h k (by omega))]
theorem ix_hit {L : List RE} {n : ByteArray} {k : Nat} (hk : k < L.length) (h : ∀ j, j < k → (eAt L j).nm ≠ n) (he : (eAt L k).nm = n) : ixOf L n = (k : Int) := by
  rw [ix_skip k (by omega) h, List.drop_eq_getElem_cons hk, ixFrom, if_pos (by rw [← eAt_in hk]; exact he)]
theorem ix_none {L : List RE} {n : ByteArray} (h : ∀ j, j < L.length → (eAt L j).nm ≠ n) : ixOf L n = -1 := by
  rw [ix_skip L.length (Nat.le_refl _) h, List.drop_length, ixFrom]
theorem ixFrom_pl (n : ByteArray) : ∀ (K J : List RE) (i : Nat), K.map RE.pl = J.map RE.pl → ixFrom n K i = ixFrom n J i
  | [], [], _, _ => rfl
  | [], y :: r, _, h => by simp at h
  | x :: l, [], _, h => by simp at h
  | x :: l, y :: r, i, h => by
    simp only [List.map_cons, List.cons.injEq] at h
    rw [ixFrom, ixFrom, (RE.pl_inj h.1).1, ixFrom_pl n l r (i + 1) h.2]
theorem ixOf_pl {K J : List RE} (h : K.map RE.pl = J.map RE.pl) (n : ByteArray) : ixOf K n = ixOf J n := ixFrom_pl n K J 0 h
theorem neS {a b : ByteArray} (h : a ≠ b) : (a.toList == b.toList) = false := by
  rw [Bool.eq_false_iff]; intro e; exact h (toList_inj (by simpa using e))

set_option maxRecDepth 100000 in
theorem ratLit_any (x : RE) (n : ByteArray) (q : Nat) (w : World) (hq : w.heap[q]? = some (.cells #[.string n] 9 (0, 0))) :
    Calls Try.prog 25 #[.agg #[.string x.nm, .int .i64 x.sal, .slice x.aP x.nP x.cP, .slice x.aC x.nC x.cC, .slice x.aA x.nA x.cA], .pointer (some ⟨q, 0, none⟩)] w fun e w' => e = .returned (.bool (x.nm.toList == n.toList)) ∧ Below w.heap.size w w' := by
  have b0 := below_al w (.cells #[.string x.nm, .int .i64 x.sal, .slice x.aP x.nP x.cP, .slice x.aC x.nC x.cC, .slice x.aA x.nA x.cA] 40)
  have hX := box_step hq b0
  have x0 := boxk_cell hX 0 _ rfl
  go_enter Try.func25, Try.ntmps25
  go_wp2
  go_ret
  exact ⟨rfl, b0⟩

set_option maxRecDepth 100000 in
set_option maxHeartbeats 1600000 in
theorem indexRule_any (a : Option Addr) (n cap : Nat) (J : List RE) (nm : ByteArray) (q : Nat) (w : World) (hz : J.length = n) (hr : RdRuleS w a J) (hn : n ≤ 1048580) (hq : w.heap[q]? = some (.cells #[.string nm] 9 (0, 0))) :
    Calls Try.prog 24 #[.slice a n cap, .func (.func 25) #[] #[.pointer (some ⟨q, 0, none⟩)]] w fun e w' => e = .returned (.int .i64 (ixOf J nm)) ∧ Below w.heap.size w w' := by
  have HZ := hide hz
  have HQ := hide hq
  clear hz hq
  go_enter Try.func24, Try.ntmps24
  go_wp2
  go_loopw [8] (fun i wr => ∃ (k : Nat), k ≤ n ∧ i = .int .i64 k ∧ (∀ j, j < k → (eAt J j).nm ≠ nm) ∧ Below w.heap.size w wr) (fun i _ => n - (intOf i).toNat)
  case atStart => exact ⟨0, Nat.zero_le _, rfl, fun j hj => absurd hj (Nat.not_lt_zero _), Below.refl _ _⟩
  case round =>
    obtain ⟨k, hk, rfl, hall, hbel⟩ := hrel
    have HA := hide hall
    clear hall
    by_cases hlt : k < n
    · have hlL : k < J.length := by rw [HZ.out]; exact hlt
      obtain ⟨b, off, hab, hbw, hc⟩ := (hr.below hbel).cells (by omega)
      obtain ⟨c0, c1, c2, c3, c4, -⟩ := hc k hlL
      clear hc
      subst hab
      have HY : Hid ((eAt J k).nm = nm → ixOf J nm = (k : Int)) := ix_hit hlL HA.out
      have HNk : Hid ((eAt J k).nm ≠ nm → ∀ j, j < k + 1 → (eAt J j).nm ≠ nm) := fun h j hj => by
        by_cases e : j = k
        · rw [e]; exact h
        · exact HA.out j (by omega)
      have HQr := hide (box_step HQ.out hbel)
      generalize eAt J k = y at c0 c1 c2 c3 c4 HY HNk
      go_wp2_with fail
      refine (ratLit_any y nm q _ HQr.out).mono ?_
      rintro e w2 ⟨rfl, hb2⟩
      have hbel2 : Below w.heap.size w w2 := hbel.trans (hb2.mono hbel.size)
      clear hb2 c0 c1 c2 c3 c4 hbel HQr
      by_cases hy : y.nm = nm
      · have HV := hide (HY.out hy)
        have q1 : (y.nm.toList == nm.toList) = true := by rw [hy]; simp
        clear HY HNk hy
        go_wp2
        go_ret
        exact ⟨by rw [HV.out]; rfl, hbel2⟩
      · have HN2 := hide (HNk.out hy)
        have q1 := neS hy
        clear HY HNk hy
        go_wp2
        go_roundw
        case rel => exact ⟨k + 1, by omega, by go_num, HN2.out, hbel2⟩
        case measure => simp [intOf]; omega
    · have HV := hide (ix_none (L := J) (n := nm) (fun j hj => HA.out j (by rw [HZ.out] at hj; omega)))
      go_wp2
      go_ret
      exact ⟨by rw [HV.out]; rfl, hbel⟩

set_option maxRecDepth 100000 in
set_option maxHeartbeats 1600000 in
theorem implRuleAt_any (x : DE) (nm : ByteArray) (w : World) (hr : RdDef w x) (hn : x.nR ≤ 1048580) :
    Calls Try.prog 9 #[.agg #[.string x.nm, .slice x.aR x.nR x.cR], .string nm] w fun e w' => e = .returned (.int .i64 (ixOf x.R nm)) ∧ Below w.heap.size w w' := by
  obtain ⟨hA, hQ, b0⟩ := boxes2 w #[.string x.nm, .slice x.aR x.nR x.cR] #[.string nm] 29 9
  have hmf : ∀ (fn : Fn) (first cap : Array Value) (w : World), (Instr.makeFunc fn first cap).run Try.prog w = .ok (.func fn first cap) w := fun _ _ _ _ => rfl
  go_enter Try.func9, Try.ntmps9
  go_wp2_with fail
  refine (indexRule_any x.aR x.nR x.cR x.R nm (w.heap.size + 1) _ hr.nr (hr.r.below b0) hn hQ).mono ?_
  rintro e w1 ⟨rfl, hb⟩
  have hB : Below w.heap.size w w1 := b0.trans (hb.mono b0.size)
  clear hb b0 hA hQ
  go_wp2
  go_ret
  exact ⟨rfl, hB⟩

set_option maxRecDepth 100000 in
set_option maxHeartbeats 1600000 in
theorem specRuleAt_any (x : DE) (nm : ByteArray) (w : World) (hr : RdDef w x) (hn : x.nR ≤ 1048580) :
    Calls Try.prog 7 #[.agg #[.string x.nm, .slice x.aR x.nR x.cR], .string nm] w fun e w' => e = .returned (.int .i64 (ixOf x.R nm)) ∧ Below w.heap.size w w' := by
  obtain ⟨n, hN⟩ : ∃ n, n = x.nR := ⟨_, rfl⟩
  have HZ : Hid (x.R.length = n) := by unfold Hid; rw [hr.nr, hN]
  rw [← hN] at hn ⊢
  clear hN
  have b0 := below_al w (.cells #[.string x.nm, .slice x.aR n x.cR] 29)
  have hA := boxk_new w #[.string x.nm, .slice x.aR n x.cR] 29
  have hz1 : w.heap.size < (w.alloc (.cells #[.string x.nm, .slice x.aR n x.cR] 29)).heap.size := by simp
  go_enter Try.func7, Try.ntmps7
  go_wp2
  generalize w.alloc (.cells #[.string x.nm, .slice x.aR n x.cR] 29) = w1 at b0 hA hz1 ⊢
  go_loopw [5] (fun i wr => ∃ (k : Nat), k ≤ n ∧ i = .int .i64 k ∧ (∀ j, j < k → (eAt x.R j).nm ≠ nm) ∧ Below w1.heap.size w1 wr) (fun i _ => n - (intOf i).toNat)
  case atStart => exact ⟨0, Nat.zero_le _, rfl, fun j hj => absurd hj (Nat.not_lt_zero _), Below.refl _ _⟩
  case round =>
    obtain ⟨k, hk, rfl, hall, hbel⟩ := hrel
    have HA := hide hall
    clear hall
    have HB1 := hide (b0.trans (hbel.mono b0.size))
    have HX := hide (box_below hA hbel hz1)
    have a1 := boxk_cell HX.out 1 _ rfl
    by_cases hlt : k < n
    · have hlL : k < x.R.length := by rw [HZ.out]; exact hlt
      obtain ⟨b, off, hab, hbw, hc⟩ := (hr.r.below HB1.out).cells (by omega)
      obtain ⟨c0, -, -, -, -, -⟩ := hc k hlL
      clear hc
      rw [hab] at a1
      have HY : Hid ((eAt x.R k).nm = nm → ixOf x.R nm = (k : Int)) := ix_hit hlL HA.out
      have HNk : Hid ((eAt x.R k).nm ≠ nm → ∀ j, j < k + 1 → (eAt x.R j).nm ≠ nm) := fun h j hj => by
        by_cases e : j = k
        · rw [e]; exact h
        · exact HA.out j (by omega)
      generalize eAt x.R k = y at c0 HY HNk
      by_cases hy : y.nm = nm
      · have HV := hide (HY.out hy)
        have q1 : (y.nm.toList == nm.toList) = true := by rw [hy]; simp
        clear HY HNk hy
        go_wp2
        go_ret
        exact ⟨by rw [HV.out]; rfl, HB1.out⟩
      · have HN2 := hide (HNk.out hy)
        have q1 := neS hy
        clear HY HNk hy
        go_wp2
        go_roundw
        case rel => exact ⟨k + 1, by omega, by go_num, HN2.out, hbel⟩
        case measure => simp [intOf]; omega
    · have HV := hide (ix_none (L := x.R) (n := nm) (fun j hj => HA.out j (by rw [HZ.out] at hj; omega)))
      go_wp2
      go_ret
      exact ⟨by rw [HV.out]; rfl, HB1.out⟩
end Go.Proofs.Ytcfhpcbkdpgboaa
