/-
  Rows of numbers: what a slice of them reads as (RdN), and the contracts of the laws' own helpers on them.
-/
import Derived.Test.YtfgigcdfmkfkjaaKeep6
import Derived.Deep.QuietTactic
import Derived.BigQuiet
import Derived.Handy
namespace Go.Proofs.Ytfgigcdfmkfkjaa
open Go.RowKit
set_option linter.unusedVariables false

def valsN (zs : List Int) : List Value := zs.map (Value.int .i64)
def zAt (zs : List Int) (i : Nat) : Int := zs.getD i 0
theorem zAt_in {zs : List Int} {i : Nat} (h : i < zs.length) : zAt zs i = zs[i] := by simp [zAt, List.getD, h]
theorem valsN_length (zs : List Int) : (valsN zs).length = zs.length := by simp [valsN]
theorem valsN_get {zs : List Int} {i : Nat} (h : i < zs.length) : (valsN zs)[i]? = some (.int .i64 (zAt zs i)) := by rw [zAt_in h]; simp [valsN, h]
def RdN (w : World) (a : Option Addr) (zs : List Int) : Prop := ∀ i, i < zs.length → ∃ b off, a = some ⟨b, off, none⟩ ∧ w.cell? ⟨b, off + i, none⟩ = some (.int .i64 (zAt zs i))
theorem RdN.open {w : World} {a : Option Addr} {zs : List Int} (h : RdN w a zs) (hp : 0 < zs.length) :
    ∃ b off, a = some ⟨b, off, none⟩ ∧ b < w.heap.size ∧ ∀ i, i < zs.length → w.cell? ⟨b, off + i, none⟩ = some (.int .i64 (zAt zs i)) := by
  obtain ⟨b, off, rfl, h0⟩ := h 0 hp
  refine ⟨b, off, rfl, World.block_lt_of_cell? w _ h0, fun i hi => ?_⟩
  obtain ⟨b2, off2, e, h1⟩ := h i hi
  simp only [Option.some.injEq, Addr.mk.injEq] at e
  rw [e.1, e.2.1]; exact h1
theorem rdN_owns {w : World} {base n : Nat} {T : TypeId} {v : Value} {zs : List Int} (h : w.ownsRow base T 1 v n (valsN zs)) :
    ∃ a cap, v = .slice a zs.length cap ∧ RdN w a zs ∧ n = zs.length := by
  have hn : n = zs.length := by have := h.1; rw [valsN_length] at this; omega
  subst hn
  rcases h.2 with ⟨rfl, h0⟩ | ⟨g, cap, cur, rfl, hb, hg, hnc, hcm, hsz, htake⟩
  · exact ⟨none, 0, by rw [h0], fun i hi => by omega, rfl⟩
  · refine ⟨_, cap, rfl, fun i hi => ⟨g, 0, rfl, ?_⟩, rfl⟩
    have e0 := h.cellAt i (by omega)
    rw [Nat.zero_add, e0]; exact valsN_get hi
theorem rdN_of {w : World} {base n m c : Nat} {T : TypeId} {a : Option Addr} {zs : List Int} (h : w.ownsRow base T 1 (.slice a m c) n (valsN zs)) : RdN w a zs := by
  obtain ⟨a', c', e, hr, -⟩ := rdN_owns h
  simp only [Value.slice.injEq] at e
  rw [e.1]; exact hr
theorem below_dn' {w u : World} {n : Nat} (k : Below (w.drewN n).heap.size (w.drewN n) u) : Below w.heap.size w u :=
  (show Below w.heap.size w (w.drewN n) from ⟨rfl, rfl, rfl, Nat.le_refl _, fun _ _ => rfl⟩).trans k

set_option maxRecDepth 100000 in
set_option maxHeartbeats 1600000 in
theorem eqIntS_same (a b : Option Addr) (n ca cb : Nat) (zs : List Int) (w : World) (hz : zs.length = n) (hr : RdN w a zs) (hq : RdN w b zs) (hn : n ≤ 1048580) :
    Calls Try.prog 26 #[.slice a n ca, .slice b n cb] w fun e w' => e = .returned (.bool true) ∧ Below w.heap.size w w' := by
  have HZ := hide hz
  clear hz
  have hnn : ((n : Int) != (n : Int)) = false := by simp
  go_enter Try.func26, Try.ntmps26
  go_wp2
  go_loopw [5] (fun i wr => ∃ (k nd : Nat), k ≤ n ∧ i = .int .i64 k ∧ wr = w.drewN nd) (fun i _ => n - (intOf i).toNat)
  case atStart => exact ⟨0, 0, Nat.zero_le _, rfl, rfl⟩
  case round =>
    obtain ⟨k, nd, hk, rfl, rfl⟩ := hrel
    by_cases hlt : k < n
    · obtain ⟨b1, o1, e1, -, hc1⟩ := hr.open (by rw [HZ.out]; omega)
      obtain ⟨b2, o2, e2, -, hc2⟩ := hq.open (by rw [HZ.out]; omega)
      have c0 := hc1 k (by rw [HZ.out]; exact hlt)
      have d0 := hc2 k (by rw [HZ.out]; exact hlt)
      have l1 : (k : Int) < (n : Int) := by omega
      clear hc1 hc2
      subst e1 e2
      generalize zAt zs k = z at c0 d0
      have k1 : (z != z) = false := by simp
      go_wp2
      go_quiet (fail)
      go_wp2
      go_roundw
      case rel => exact ⟨k + 1, _, by omega, by go_num, rfl⟩
      case measure => simp [intOf]; omega
    · go_wp2
      go_ret
      exact ⟨rfl, below_dn' (Below.refl _ _)⟩

def marksN (k n : Nat) : List Int := (List.range n).map fun i => ((k + i : Nat) : Int)
theorem marksN_length (k n : Nat) : (marksN k n).length = n := by simp [marksN]
theorem marksN_succ (k n : Nat) : marksN k (n + 1) = marksN k n ++ [((k + n : Nat) : Int)] := by simp [marksN, List.range_succ]
theorem marksN_at {k n i : Nat} (h : i < n) : zAt (marksN k n) i = ((k + i : Nat) : Int) := by
  rw [zAt_in (by rw [marksN_length]; exact h)]; simp [marksN]
def partN (xs : List Value) (k j : Nat) : List Value := valsN (marksN k j) ++ xs.drop j
theorem partN_set {xs : List Value} {k j : Nat} (h : j < xs.length) : (partN xs k j).set j (.int .i64 ((k + j : Nat) : Int)) = partN xs k (j + 1) := by
  unfold partN
  have hl : (valsN (marksN k j)).length = j := by rw [valsN_length, marksN_length]
  rw [List.set_append_right _ _ (by omega), hl, Nat.sub_self, List.drop_eq_getElem_cons h, List.set_cons_zero, marksN_succ]
  simp [valsN]
theorem partN_end {xs : List Value} {k j : Nat} (h : xs.length ≤ j) : partN xs k j = valsN (marksN k j) := by
  unfold partN; rw [List.drop_eq_nil_of_le h, List.append_nil]
theorem partN_length {xs : List Value} {k j : Nat} (h : j ≤ xs.length) : (partN xs k j).length = xs.length := by
  unfold partN; rw [List.length_append, valsN_length, marksN_length, List.length_drop]; omega
theorem grown_t {a b c : World} {row : Option Nat} (h : a.grownBy b row) (k : b.grownBy c row) : a.grownBy c row :=
  ⟨k.os.trans h.os, k.tape.trans h.tape, k.output.trans h.output, Nat.le_trans h.size k.size, fun i hi hne => (k.block i (Nat.lt_of_lt_of_le hi h.size) hne).trans (h.block i hi hne)⟩

set_option maxRecDepth 100000 in
set_option maxHeartbeats 1600000 in
theorem markIntS_any (g n cap base k0 : Nat) (xs : List Value) (w : World) (hown : w.ownsRow base 3 1 (.slice (some ⟨g, 0, none⟩) n cap) n xs) (hn : n ≤ 33554500) (hk : k0 ≤ 33554500) :
    Calls Try.prog 29 #[.slice (some ⟨g, 0, none⟩) n cap, .int .i64 (k0 : Int)] w fun e w' =>
      e = .returned (.int .i64 ((k0 + n : Nat) : Int)) ∧ w'.ownsRow base 3 1 (.slice (some ⟨g, 0, none⟩) n cap) n (valsN (marksN k0 n)) ∧ w.grownBy w' (some g) := by
  have HX : Hid (xs.length = n) := by have := hown.1; unfold Hid; omega
  have hown0 := hide hown
  clear hown
  go_enter Try.func29, Try.ntmps29
  go_wp2
  go_loopw [1, 5] (fun kk i wr => ∃ j : Nat, j ≤ n ∧ i = .int .i64 j ∧ kk = .int .i64 ((k0 + j : Nat) : Int) ∧ wr.ownsRow base 3 1 (.slice (some ⟨g, 0, none⟩) n cap) n (partN xs k0 j) ∧ w.grownBy wr (some g)) (fun _ i _ => n - (intOf i).toNat)
  case atStart => exact ⟨0, Nat.zero_le _, rfl, rfl, hown0.out, World.grownBy.refl _ _⟩
  case round =>
    obtain ⟨j, hj, rfl, rfl, hown, hgr⟩ := hrel
    by_cases hlt : j < n
    · obtain ⟨u, h2⟩ : ∃ u, wr.cell? ⟨g, j, none⟩ = some u := by
        rw [hown.cellAt j (by omega), List.getElem?_eq_getElem (by rw [partN_length (by rw [HX.out]; exact hj), HX.out]; exact hlt)]
        exact ⟨_, rfl⟩
      have h3 : wr.frozen? ⟨g, j, none⟩ = false := hown.frozenAt j
      have HO := hide (hown.stored j (.int .i64 ((k0 + j : Nat) : Int)))
      rw [partN_set (by rw [HX.out]; exact hlt)] at HO
      clear hown
      go_wp2
      go_roundw
      case rel =>
        refine ⟨j + 1, by omega, by go_num, by go_num, ?_⟩
        have HO2 := HO.out
        rw [Int.natCast_add] at HO2
        exact ⟨HO2.1, grown_t hgr HO2.2⟩
      case measure => simp [intOf]; omega
    · have hjn : j = n := by omega
      have HZ : Hid (wr.ownsRow base 3 1 (.slice (some ⟨g, 0, none⟩) n cap) n (valsN (marksN k0 n))) := by
        unfold Hid
        rw [partN_end (by rw [HX.out]; omega), hjn] at hown
        exact hown
      have HJ := hide hjn
      clear hown hjn
      go_wp2
      go_ret
      exact ⟨ret_int (by rw [HJ.out]), HZ.out, hgr⟩

set_option maxRecDepth 100000 in
set_option maxHeartbeats 1600000 in
theorem markIntS_nil (w : World) : Calls Try.prog 29 #[.slice none 0 0, .int .i64 1] w fun e w' => e = .returned (.int .i64 1) ∧ w' = w := by
  go_enter Try.func29, Try.ntmps29
  go_wp2
  go_rounds 1
  go_ret
  exact ⟨rfl, rfl⟩
theorem markIntS_row (base n : Nat) (v : Value) (zs : List Int) (w : World) (hown : w.ownsRow base 3 1 v n (valsN zs)) (hn : n ≤ 33554400) :
    Calls Try.prog 29 #[v, .int .i64 1] w fun e w' =>
      e = .returned (.int .i64 ((1 + n : Nat) : Int)) ∧ w'.ownsRow base 3 1 v n (valsN (marksN 1 n)) ∧ w.grownBy w' v.ownBlock := by
  rcases hown.2 with ⟨rfl, h0⟩ | ⟨g, cap, cur, rfl, hb, rest⟩
  · refine (markIntS_nil w).mono fun e w' h => ?_
    obtain ⟨h1, rfl⟩ := h
    subst h0
    exact ⟨by rw [h1]; rfl, World.ownsRow_nil _ _ _ _, World.grownBy.refl _ _⟩
  · exact markIntS_any g n cap base 1 _ w hown (by omega) (by omega)

end Go.Proofs.Ytfgigcdfmkfkjaa
