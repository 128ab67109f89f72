/-
  Rows of texts: what a slice of them reads as (RdS), whether one is among them, and the contracts of the laws' own helpers on them.
-/
import Derived.Test.YtaflokfgbmlmaaaMarkArg
import Derived.Test.YtaflokfgbmlmaaaVEq
import Derived.Deep.QuietTactic
import Derived.BigQuiet
import Derived.Handy
namespace Go.Proofs.Ytaflokfgbmlmaaa
open Go.RowKit
set_option linter.unusedVariables false

def valsS (L : List ByteArray) : List Value := L.map Value.string
def sAt (L : List ByteArray) (i : Nat) : ByteArray := L.getD i ⟨#[]⟩
theorem sAt_in {L : List ByteArray} {i : Nat} (h : i < L.length) : sAt L i = L[i] := by simp [sAt, List.getD, h]
theorem valsS_length (L : List ByteArray) : (valsS L).length = L.length := by simp [valsS]
theorem valsS_get {L : List ByteArray} {i : Nat} (h : i < L.length) : (valsS L)[i]? = some (.string (sAt L i)) := by rw [sAt_in h]; simp [valsS, h]
theorem valsS_snoc (L : List ByteArray) (x : ByteArray) : valsS L ++ [.string x] = valsS (L ++ [x]) := by simp [valsS]
def RdS (w : World) (a : Option Addr) (L : List ByteArray) : Prop := ∀ i, i < L.length → ∃ b off, a = some ⟨b, off, none⟩ ∧ w.cell? ⟨b, off + i, none⟩ = some (.string (sAt L i))
theorem RdS.open {w : World} {a : Option Addr} {L : List ByteArray} (h : RdS w a L) (hp : 0 < L.length) :
    ∃ b off, a = some ⟨b, off, none⟩ ∧ b < w.heap.size ∧ ∀ i, i < L.length → w.cell? ⟨b, off + i, none⟩ = some (.string (sAt L i)) := by
  obtain ⟨b, off, rfl, h0⟩ := h 0 hp
  refine ⟨b, off, rfl, World.block_lt_of_cell? w _ h0, fun i hi => ?_⟩
  obtain ⟨b2, off2, e, h1⟩ := h i hi
  simp only [Option.some.injEq, Addr.mk.injEq] at e
  rw [e.1, e.2.1]; exact h1
theorem RdS.below {w w' : World} {a : Option Addr} {L : List ByteArray} (h : RdS w a L) (hb : Below w.heap.size w w') : RdS w' a L := by
  intro i hi
  obtain ⟨b, off, e, h0⟩ := h i hi
  exact ⟨b, off, e, by rw [hb.cell (World.block_lt_of_cell? w _ h0)]; exact h0⟩
theorem rdS_owns {w : World} {base n : Nat} {T : TypeId} {v : Value} {L : List ByteArray} (h : w.ownsRow base T 1 v n (valsS L)) :
    ∃ a cap, v = .slice a L.length cap ∧ RdS w a L ∧ n = L.length := by
  have hn : n = L.length := by have := h.1; rw [valsS_length] at this; omega
  subst hn
  rcases h.2 with ⟨rfl, h0⟩ | ⟨g, cap, cur, rfl, hb, hg, hnc, hcm, hsz, htake⟩
  · exact ⟨none, 0, by rw [h0], fun i hi => by omega, rfl⟩
  · refine ⟨_, cap, rfl, fun i hi => ⟨g, 0, rfl, ?_⟩, rfl⟩
    have e0 := h.cellAt i (by omega)
    rw [Nat.zero_add, e0]; exact valsS_get hi
theorem rdS_of {w : World} {base n m c : Nat} {T : TypeId} {a : Option Addr} {L : List ByteArray} (h : w.ownsRow base T 1 (.slice a m c) n (valsS L)) : RdS w a L := by
  obtain ⟨a', c', e, hr, -⟩ := rdS_owns h
  simp only [Value.slice.injEq] at e
  rw [e.1]; exact hr
theorem below_dnS {w u : World} {n : Nat} (k : Below (w.drewN n).heap.size (w.drewN n) u) : Below w.heap.size w u :=
  (show Below w.heap.size w (w.drewN n) from ⟨rfl, rfl, rfl, Nat.le_refl _, fun _ _ => rfl⟩).trans k
theorem beq_neS {a b : ByteArray} (h : a ≠ b) : (a.toList == b.toList) = false := by
  simp only [beq_eq_false_iff_ne, ne_eq]
  exact fun e => h (toList_inj e)
def hasS (L : List ByteArray) (s : ByteArray) : Bool := L.any fun x => decide (x = s)
theorem hasS_yes {L : List ByteArray} {s : ByteArray} {k : Nat} (hk : k < L.length) (h : sAt L k = s) : hasS L s = true := by
  rw [sAt_in hk] at h
  unfold hasS
  rw [List.any_eq_true]
  exact ⟨L[k], List.getElem_mem hk, by simpa using h⟩
theorem hasS_no {L : List ByteArray} {s : ByteArray} (h : ∀ j, j < L.length → sAt L j ≠ s) : hasS L s = false := by
  rw [Bool.eq_false_iff]
  intro ht
  unfold hasS at ht
  rw [List.any_eq_true] at ht
  obtain ⟨x, hx, e⟩ := ht
  obtain ⟨j, hj, e2⟩ := List.getElem_of_mem hx
  exact h j hj (by rw [sAt_in hj, e2]; simpa using e)
theorem hasS_mem {L : List ByteArray} {s : ByteArray} : hasS L s = true ↔ s ∈ L := by
  unfold hasS
  rw [List.any_eq_true]
  exact ⟨fun ⟨x, hx, e⟩ => by rw [← show x = s by simpa using e]; exact hx, fun h => ⟨s, h, by simp⟩⟩

set_option maxRecDepth 100000 in
set_option maxHeartbeats 1600000 in
theorem eqStringS_same (a b : Option Addr) (n ca cb : Nat) (L : List ByteArray) (w : World) (hz : L.length = n) (hr : RdS w a L) (hq : RdS w b L) (hn : n ≤ 1048580) :
    Calls Try.prog 15 #[.slice a n ca, .slice b n cb] w fun e w' => e = .returned (.bool true) ∧ Below w.heap.size w w' := by
  have HZ := hide hz
  clear hz
  have hnn : ((n : Int) != (n : Int)) = false := by simp
  go_enter Try.func15, Try.ntmps15
  go_wp2
  go_loopw [5] (fun i wr => ∃ (k nd : Nat), k ≤ n ∧ i = .int .i64 k ∧ wr = w.drewN nd) (fun i _ => n - (intOf i).toNat)
  case atStart => exact ⟨0, 0, Nat.zero_le _, rfl, rfl⟩
  case round =>
    obtain ⟨k, nd, hk, rfl, rfl⟩ := hrel
    by_cases hlt : k < n
    · obtain ⟨b1, o1, e1, -, hc1⟩ := hr.open (by rw [HZ.out]; omega)
      obtain ⟨b2, o2, e2, -, hc2⟩ := hq.open (by rw [HZ.out]; omega)
      have c0 := hc1 k (by rw [HZ.out]; exact hlt)
      have d0 := hc2 k (by rw [HZ.out]; exact hlt)
      have l1 : (k : Int) < (n : Int) := by omega
      clear hc1 hc2
      subst e1 e2
      generalize sAt L k = z at c0 d0
      have k1 : (z.toList == z.toList) = true := by simp
      go_wp2
      go_quiet (fail)
      go_wp2
      go_roundw
      case rel => exact ⟨k + 1, _, by omega, by go_num, rfl⟩
      case measure => simp [intOf]; omega
    · go_wp2
      go_ret
      exact ⟨rfl, below_dnS (Below.refl _ _)⟩

set_option maxRecDepth 100000 in
set_option maxHeartbeats 1600000 in
theorem l6Has_any (a : Option Addr) (n cap : Nat) (L : List ByteArray) (s : ByteArray) (w : World) (hz : L.length = n) (hr : RdS w a L) (hn : n ≤ 1048580) :
    Calls Try.prog 40 #[.slice a n cap, .string s] w fun e w' => e = .returned (.bool (hasS L s)) ∧ w' = w := by
  have HZ := hide hz
  clear hz
  go_enter Try.func40, Try.ntmps40
  go_wp2
  go_loop [5] (fun i => ∃ (k : Nat), k ≤ n ∧ i = .int .i64 k ∧ ∀ j, j < k → sAt L j ≠ s) (fun i => n - (intOf i).toNat)
  case atStart => exact ⟨0, Nat.zero_le _, rfl, fun j hj => absurd hj (Nat.not_lt_zero _)⟩
  case round =>
    obtain ⟨k, hk, rfl, hall⟩ := hrel
    have HA := hide hall
    clear hall
    by_cases hlt : k < n
    · obtain ⟨b, off, hab, hbw, hc⟩ := hr.open (by rw [HZ.out]; omega)
      have c0 := hc k (by rw [HZ.out]; exact hlt)
      clear hc
      subst hab
      by_cases he : sAt L k = s
      · have HV := hide (hasS_yes (by rw [HZ.out]; exact hlt) he)
        rw [he] at c0
        have k1 : (s.toList == s.toList) = true := by simp
        clear he
        go_wp2
        go_ret
        exact ⟨ret_bool HV.out.symm, rfl⟩
      · have k1 := beq_neS he
        have HE := hide he
        clear he
        go_wp2
        go_round
        case rel => exact ⟨k + 1, by omega, by go_num, fun j hj => by
            by_cases hjk : j = k
            · rw [hjk]; exact HE.out
            · exact HA.out j (by omega)⟩
        case measure => simp [intOf]; omega
    · have HV := hide (hasS_no (fun j hj => HA.out j (by rw [HZ.out] at hj; omega)))
      go_wp2
      go_ret
      exact ⟨ret_bool HV.out.symm, rfl⟩

set_option maxRecDepth 100000 in
set_option maxHeartbeats 1600000 in
theorem indexS_any (a : Option Addr) (n cap : Nat) (L : List ByteArray) (s : ByteArray) (w : World) (hz : L.length = n) (hr : RdS w a L) (hn : n ≤ 1048580) :
    Calls Try.prog 79 #[.slice a n cap, .string s] w fun e w' => (∃ r : Int, e = .returned (.int .i64 r) ∧ decide (0 ≤ r) = hasS L s) ∧ w' = w := by
  have HZ := hide hz
  clear hz
  go_enter Try.func79, Try.ntmps79
  go_wp2
  go_loop [8] (fun i => ∃ (k : Nat), k ≤ n ∧ i = .int .i64 k ∧ ∀ j, j < k → sAt L j ≠ s) (fun i => n - (intOf i).toNat)
  case atStart => exact ⟨0, Nat.zero_le _, rfl, fun j hj => absurd hj (Nat.not_lt_zero _)⟩
  case round =>
    obtain ⟨k, hk, rfl, hall⟩ := hrel
    have HA := hide hall
    clear hall
    by_cases hlt : k < n
    · obtain ⟨b, off, hab, hbw, hc⟩ := hr.open (by rw [HZ.out]; omega)
      have c0 := hc k (by rw [HZ.out]; exact hlt)
      clear hc
      subst hab
      by_cases he : sAt L k = s
      · have HV := hide (hasS_yes (by rw [HZ.out]; exact hlt) he)
        rw [he] at c0
        have k1 : (s.toList == s.toList) = true := by simp
        clear he
        go_wp2
        go_ret
        exact ⟨⟨k, rfl, by rw [HV.out]; simp⟩, rfl⟩
      · have k1 := beq_neS (Ne.symm he)
        have HE := hide he
        clear he
        go_wp2
        go_round
        case rel => exact ⟨k + 1, by omega, by go_num, fun j hj => by
            by_cases hjk : j = k
            · rw [hjk]; exact HE.out
            · exact HA.out j (by omega)⟩
        case measure => simp [intOf]; omega
    · have HV := hide (hasS_no (fun j hj => HA.out j (by rw [HZ.out] at hj; omega)))
      go_wp2
      go_ret
      exact ⟨⟨-1, rfl, by rw [HV.out]; rfl⟩, rfl⟩

set_option maxRecDepth 100000 in
theorem containsS_any (a : Option Addr) (n cap : Nat) (L : List ByteArray) (s : ByteArray) (w : World) (hz : L.length = n) (hr : RdS w a L) (hn : n ≤ 1048580) :
    Calls Try.prog 63 #[.slice a n cap, .string s] w fun e w' => e = .returned (.bool (hasS L s)) ∧ w' = w := by
  go_enter Try.func63, Try.ntmps63
  go_wp2_with fail
  refine (indexS_any a n cap L s _ hz hr hn).mono ?_
  rintro e w1 ⟨⟨r, rfl, h⟩, rfl⟩
  have H := hide h
  clear h
  go_wp2
  go_ret
  exact ⟨ret_bool H.out, rfl⟩

def marksS (k n : Nat) : List ByteArray := (List.range n).map fun i => markT (k + i)
theorem marksS_length (k n : Nat) : (marksS k n).length = n := by simp [marksS]
theorem marksS_succ (k n : Nat) : marksS k (n + 1) = marksS k n ++ [markT (k + n)] := by simp [marksS, List.range_succ]
theorem marksS_at {k n i : Nat} (h : i < n) : sAt (marksS k n) i = markT (k + i) := by
  rw [sAt_in (by rw [marksS_length]; exact h)]; simp [marksS]
def partS (xs : List Value) (k j : Nat) : List Value := valsS (marksS k j) ++ xs.drop j
theorem partS_set {xs : List Value} {k j : Nat} (h : j < xs.length) : (partS xs k j).set j (.string (markT (k + j))) = partS xs k (j + 1) := by
  unfold partS
  have hl : (valsS (marksS k j)).length = j := by rw [valsS_length, marksS_length]
  rw [List.set_append_right _ _ (by omega), hl, Nat.sub_self, List.drop_eq_getElem_cons h, List.set_cons_zero, marksS_succ]
  simp [valsS]
theorem partS_end {xs : List Value} {k j : Nat} (h : xs.length ≤ j) : partS xs k j = valsS (marksS k j) := by
  unfold partS; rw [List.drop_eq_nil_of_le h, List.append_nil]
theorem partS_length {xs : List Value} {k j : Nat} (h : j ≤ xs.length) : (partS xs k j).length = xs.length := by
  unfold partS; rw [List.length_append, valsS_length, marksS_length, List.length_drop]; omega

set_option maxRecDepth 100000 in
set_option maxHeartbeats 1600000 in
theorem markStringS_any (g n cap base k0 : Nat) (xs : List Value) (w : World) (hown : w.ownsRow base 9 1 (.slice (some ⟨g, 0, none⟩) n cap) n xs) (hn : n ≤ 33554500) (hk : k0 ≤ 33554500) :
    Calls Try.prog 17 #[.slice (some ⟨g, 0, none⟩) n cap, .int .i64 (k0 : Int)] w fun e w' =>
      e = .returned (.int .i64 ((k0 + n : Nat) : Int)) ∧ w'.ownsRow base 9 1 (.slice (some ⟨g, 0, none⟩) n cap) n (valsS (marksS k0 n)) ∧ w.grownBy w' (some g) := by
  have HX : Hid (xs.length = n) := by have := hown.1; unfold Hid; omega
  have hown0 := hide hown
  clear hown
  go_enter Try.func17, Try.ntmps17
  go_wp2
  go_loopw [1, 5] (fun kk i wr => ∃ j : Nat, j ≤ n ∧ i = .int .i64 j ∧ kk = .int .i64 ((k0 + j : Nat) : Int) ∧ wr.ownsRow base 9 1 (.slice (some ⟨g, 0, none⟩) n cap) n (partS xs k0 j) ∧ w.grownBy wr (some g)) (fun _ i _ => n - (intOf i).toNat)
  case atStart => exact ⟨0, Nat.zero_le _, rfl, rfl, hown0.out, World.grownBy.refl _ _⟩
  case round =>
    obtain ⟨j, hj, rfl, rfl, hown, hgr⟩ := hrel
    by_cases hlt : j < n
    · obtain ⟨m, hm⟩ : ∃ m, m = k0 + j := ⟨_, rfl⟩
      rw [← hm]
      have HM := hide hm
      have hm2 : m ≤ 100000000 := by omega
      clear hm
      go_wp2_with fail
      refine (markText_any m _ (by omega)).mono ?_
      rintro e w2 ⟨rfl, hb2⟩
      have ho2 := ownsRow_below' hown hb2
      have hg2 := grown_belowM hgr hb2
      clear hown hgr hb2
      obtain ⟨u, h2⟩ : ∃ u, w2.cell? ⟨g, j, none⟩ = some u := by
        rw [ho2.cellAt j (by omega), List.getElem?_eq_getElem (by rw [partS_length (by rw [HX.out]; exact hj), HX.out]; exact hlt)]
        exact ⟨_, rfl⟩
      have h3 : w2.frozen? ⟨g, j, none⟩ = false := ho2.frozenAt j
      have HO := hide (ho2.stored j (.string (markT (k0 + j))))
      rw [partS_set (by rw [HX.out]; exact hlt), ← HM.out] at HO
      have HG := hide (grown_tt hg2 HO.out.2)
      clear ho2 hg2
      generalize markT m = tx at HO HG
      go_wp2
      go_roundw
      case rel => exact ⟨j + 1, by omega, by go_num, by rw [show k0 + (j + 1) = m + 1 by rw [HM.out]; rfl]; go_num, HO.out.1, HG.out⟩
      case measure => simp [intOf]; omega
    · have hjn : j = n := by omega
      have HZ : Hid (wr.ownsRow base 9 1 (.slice (some ⟨g, 0, none⟩) n cap) n (valsS (marksS k0 n))) := by
        unfold Hid
        rw [partS_end (by rw [HX.out]; omega), hjn] at hown
        exact hown
      have HJ := hide hjn
      clear hown hjn
      go_wp2
      go_ret
      exact ⟨ret_int (by rw [HJ.out]), HZ.out, hgr⟩

set_option maxRecDepth 100000 in
set_option maxHeartbeats 1600000 in
theorem markStringS_nil (w : World) : Calls Try.prog 17 #[.slice none 0 0, .int .i64 1] w fun e w' => e = .returned (.int .i64 1) ∧ w' = w := by
  go_enter Try.func17, Try.ntmps17
  go_wp2
  go_rounds 1
  go_ret
  exact ⟨rfl, rfl⟩
theorem markStringS_row (base n : Nat) (v : Value) (L : List ByteArray) (w : World) (hown : w.ownsRow base 9 1 v n (valsS L)) (hn : n ≤ 33554400) :
    Calls Try.prog 17 #[v, .int .i64 1] w fun e w' =>
      e = .returned (.int .i64 ((1 + n : Nat) : Int)) ∧ w'.ownsRow base 9 1 v n (valsS (marksS 1 n)) ∧ w.grownBy w' v.ownBlock := by
  rcases hown.2 with ⟨rfl, h0⟩ | ⟨g, cap, cur, rfl, hb, rest⟩
  · refine (markStringS_nil w).mono fun e w' h => ?_
    obtain ⟨h1, rfl⟩ := h
    subst h0
    exact ⟨by rw [h1]; rfl, World.ownsRow_nil _ _ _ _, World.grownBy.refl _ _⟩
  · exact markStringS_any g n cap base 1 _ w hown (by omega) (by omega)

theorem kept1S {W w' : World} {p : Addr} {v : Value} (hb : Below W.heap.size W w') (h : W.cell? p = some v) : w'.cell? p = some v := by rw [hb.cell (World.block_lt_of_cell? W _ h)]; exact h
set_option maxRecDepth 100000 in
set_option maxHeartbeats 1600000 in
theorem heldStringS_any (a : Option Addr) (n cap k0 : Nat) (w : World) (hr : RdS w a (marksS k0 n)) (hn : n ≤ 33554500) (hk : k0 ≤ 33554500) :
    Calls Try.prog 18 #[.slice a n cap, .int .i64 (k0 : Int)] w fun e w' => e = .returned (.int .i64 ((k0 + n : Nat) : Int)) ∧ Below w.heap.size w w' := by
  go_enter Try.func18, Try.ntmps18
  go_wp2
  go_loopw [1, 5] (fun kk i wr => ∃ j : Nat, j ≤ n ∧ i = .int .i64 j ∧ (∃ m : Nat, m = k0 + j ∧ kk = .int .i64 (m : Int)) ∧ Below w.heap.size w wr) (fun _ i _ => n - (intOf i).toNat)
  case atStart => exact ⟨0, Nat.zero_le _, rfl, ⟨k0, rfl, rfl⟩, Below.refl _ _⟩
  case round =>
    obtain ⟨j, hj, rfl, ⟨m, hm, rfl⟩, hbel⟩ := hrel
    have HM := hide hm
    have hm2 : m ≤ 100000000 := by omega
    clear hm
    by_cases hlt : j < n
    · obtain ⟨b, off, hab, hbw, hc⟩ := hr.open (by rw [marksS_length]; omega)
      have c0 := hc j (by rw [marksS_length]; exact hlt)
      rw [marksS_at hlt, ← HM.out] at c0
      clear hc
      subst hab
      rw [← hbel.cell (p := ⟨b, off + j, none⟩) hbw] at c0
      have k3 : ((markT m).toList == (markT m).toList) = true := by simp
      have l1 : (j : Int) < (n : Int) := by omega
      have HB := hide hbel
      go_wp2_with fail
      go_region_held3 (fun W => W.cell? ⟨b, off + j, none⟩ = some (.string (markT m))) (first | exact c0 | exact kept1S (below_dr hb2) c0)
        (first | (go_at_call 45; refine (markText_any m _ (by omega)).mono ?_; rintro e w2 ⟨rfl, hb2⟩))
      all_goals
        have B2 : Below w.heap.size w w2 := HB.out.drew.trans (hb2.mono HB.out.size)
        go_wp2
        go_roundw
        case rel => exact ⟨j + 1, by omega, by go_num, ⟨m + 1, by rw [HM.out]; rfl, by go_num⟩, B2⟩
        case measure => simp [intOf]; omega
    · obtain rfl : j = n := by omega
      go_wp2
      go_ret
      exact ⟨by rw [HM.out]; rfl, hbel⟩
theorem heldStringS_1 (a : Option Addr) (n cap : Nat) (w : World) (hr : RdS w a (marksS 1 n)) (hn : n ≤ 33554500) :
    Calls Try.prog 18 #[.slice a n cap, .int .i64 1] w fun e w' => e = .returned (.int .i64 ((1 + n : Nat) : Int)) ∧ Below w.heap.size w w' := heldStringS_any a n cap 1 w hr hn (by omega)
end Go.Proofs.Ytaflokfgbmlmaaa
