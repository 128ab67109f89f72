/-
  The contracts of the laws' own helpers on rows of values and on facts.
-/
import Derived.Test.YtfgigcdfmkfkjaaValRow
import Derived.Test.YtfgigcdfmkfkjaaLawVal
import Derived.Test.YtfgigcdfmkfkjaaLawEq
import Derived.Test.YtfgigcdfmkfkjaaKeep6
import Derived.Deep.RegionHeld3
namespace Go.Proofs.Ytfgigcdfmkfkjaa
open Go.RowKit
set_option linter.unusedVariables false

theorem Try.info105 : (Try.prog.info? 105).map (fun i => (i.zero, i.size, i.bytes)) = some (some (.agg #[.int .i64 0, .int .i64 0, .string ⟨#[]⟩]), 3, 32) := by kernel_rfl

/-- the first k values copied, the rest still zero -/
def partV (L : List V3) (k : Nat) : List V3 := L.take k ++ List.replicate (L.length - k) ⟨0, 0, ⟨#[]⟩⟩
theorem partV_length {L : List V3} {k : Nat} (h : k ≤ L.length) : (partV L k).length = L.length := by simp [partV]; omega
theorem partV_zero (L : List V3) : partV L 0 = List.replicate L.length ⟨0, 0, ⟨#[]⟩⟩ := by simp [partV]
theorem partV_end (L : List V3) : partV L L.length = L := by simp [partV]
theorem cells3_set (L M : List V3) (v : V3) (x : V3) :
    (((cells3 (L ++ x :: M)).set (L.length * 3) (.int .i64 v.K)).set (L.length * 3 + 1) (.int .i64 v.N)).set (L.length * 3 + 2) (.string v.S) = cells3 (L ++ v :: M) := by
  have e : ∀ y : V3, cells3 (L ++ y :: M) = cells3 L ++ (.int .i64 y.K :: .int .i64 y.N :: .string y.S :: cells3 M) := fun y => by simp [cells3]
  have hl := cells3_length L
  rw [e, e, List.set_append_right _ _ (by omega), hl, Nat.sub_self, List.set_append_right _ _ (by omega), hl, List.set_append_right _ _ (by omega), hl]
  simp
theorem partV_set {L : List V3} {k : Nat} (h : k < L.length) :
    (((cells3 (partV L k)).set (k * 3) (.int .i64 (vAt L k).K)).set (k * 3 + 1) (.int .i64 (vAt L k).N)).set (k * 3 + 2) (.string (vAt L k).S) = cells3 (partV L (k + 1)) := by
  have h1 : partV L k = L.take k ++ ⟨0, 0, ⟨#[]⟩⟩ :: List.replicate (L.length - (k + 1)) ⟨0, 0, ⟨#[]⟩⟩ := by
    unfold partV; rw [show L.length - k = (L.length - (k + 1)) + 1 by omega, List.replicate_succ]
  have h2 : partV L (k + 1) = L.take k ++ vAt L k :: List.replicate (L.length - (k + 1)) ⟨0, 0, ⟨#[]⟩⟩ := by
    unfold partV; rw [List.take_succ_eq_append_getElem h, vAt_in h, List.append_assoc]; rfl
  have := cells3_set (L.take k) (List.replicate (L.length - (k + 1)) ⟨0, 0, ⟨#[]⟩⟩) (vAt L k) ⟨0, 0, ⟨#[]⟩⟩
  rw [List.length_take, Nat.min_eq_left (by omega)] at this
  rw [h1, h2]; exact this
theorem made3 (n : Nat) : (madeCells #[Value.int .i64 0, .int .i64 0, .string ⟨#[]⟩] (n * 3)).toList = cells3 (List.replicate n ⟨0, 0, ⟨#[]⟩⟩) := by
  have hl : (madeCells #[Value.int .i64 0, .int .i64 0, .string ⟨#[]⟩] (n * 3)).toList.length = n * 3 := by simp [madeCells]
  apply List.ext_getElem?
  intro j
  by_cases hj : j < n * 3
  · obtain ⟨i, r, rfl, hr⟩ : ∃ i r, j = i * 3 + r ∧ r < 3 := ⟨j / 3, j % 3, by omega, by omega⟩
    have hi : i < (List.replicate n (⟨0, 0, ⟨#[]⟩⟩ : V3)).length := by simp; omega
    obtain ⟨g0, g1, g2⟩ := cells3_get (List.replicate n ⟨0, 0, ⟨#[]⟩⟩) i hi
    have ev : vAt (List.replicate n (⟨0, 0, ⟨#[]⟩⟩ : V3)) i = ⟨0, 0, ⟨#[]⟩⟩ := by rw [vAt_in hi]; simp
    rw [ev] at g0 g1 g2
    match r, hr with
    | 0, _ => rw [Nat.add_zero, g0]; simp [madeCells, show i * 3 < n * 3 by omega]
    | 1, _ => rw [g1]; simp [madeCells, show i * 3 + 1 < n * 3 by omega, show (i * 3 + 1) % 3 = 1 by omega]
    | 2, _ => rw [g2]; simp [madeCells, show i * 3 + 2 < n * 3 by omega, show (i * 3 + 2) % 3 = 2 by omega]
  · rw [List.getElem?_eq_none (by omega), List.getElem?_eq_none (by rw [cells3_length]; simp; omega)]

theorem ownsRow_below {w w' : World} {base n size : Nat} {e : TypeId} {v : Value} {xs : List Value} (h : w.ownsRow base e size v n xs) (hb : Below w.heap.size w w') : w'.ownsRow base e size v n xs := by
  refine ⟨h.1, ?_⟩
  rcases h.2 with h2 | ⟨g, cap, cur, h1, hb', hh, rest⟩
  · exact .inl h2
  · exact .inr ⟨g, cap, cur, h1, hb', by rw [hb.block g (Array.getElem?_eq_some_iff.1 hh).1]; exact hh, rest⟩

set_option maxRecDepth 100000 in
set_option maxHeartbeats 1600000 in
theorem toValS_at (a : Option Addr) (cap : Nat) (L : List V3) (w : World) (hr : RdV w a L) (hn : L.length ≤ 1048576) :
    Calls Try.prog 153 #[.slice a L.length cap] w fun e w' =>
      e = .returned (.slice (some ⟨w.heap.size, 0, none⟩) L.length L.length) ∧ w'.ownsRow w.heap.size 105 3 (.slice (some ⟨w.heap.size, 0, none⟩) L.length L.length) L.length (cells3 L) ∧ Below w.heap.size w w' := by
  obtain ⟨i0, hi, hz0, hz1, hz2⟩ := info_parts Try.info105
  obtain ⟨n, hN⟩ : ∃ n, n = L.length := ⟨_, rfl⟩
  rw [← hN] at hn ⊢
  have HN := hide hN
  clear hN
  go_enter Try.func153, Try.ntmps153
  go_wp2_with (at_make; refine wpList_make_full _ rfl _ _ 87 rfl w.heap.size 105 i0 (.agg #[.int .i64 0, .int .i64 0, .string ⟨#[]⟩]) 3 Try.underlying87 hi hz0 hz1 _ _ _ _ n rfl rfl (by omega) (by omega) ?b2 ?b3 (Nat.le_refl _) ?_)
  case b2 => rw [hz2]; omega
  case b3 => unfold maxLen; omega
  intro w0 hown0 hgrow0
  rw [made3] at hown0
  go_wp2
  go_loopw [4] (fun i wr => ∃ k : Nat, k ≤ n ∧ i = .int .i64 k ∧ wr.ownsRow w.heap.size 105 3 (.slice (some ⟨w.heap.size, 0, none⟩) n n) n (cells3 (partV L k)) ∧ Below w.heap.size w wr)
    (fun i _ => n - (intOf i).toNat)
  case atStart =>
    refine ⟨0, Nat.zero_le _, rfl, ?_, (Below.refl _ _).grown hgrow0 (Nat.le_refl _) (fun k h => by cases h)⟩
    rw [partV_zero, ← HN.out]
    exact hown0
  case round =>
    obtain ⟨k, hk, rfl, hown, hbel⟩ := hrel
    by_cases hlt : k < n
    · obtain ⟨b, off, hab, hbw, hc⟩ := hr.open (by rw [← HN.out]; omega)
      obtain ⟨c0, c1, c2⟩ := hc k (by rw [← HN.out]; exact hlt)
      clear hc
      subst hab
      rw [← hbel.cell (p := ⟨b, off + k * 3, none⟩) hbw] at c0
      rw [← hbel.cell (p := ⟨b, off + k * 3 + 1, none⟩) hbw] at c1
      rw [← hbel.cell (p := ⟨b, off + k * 3 + 2, none⟩) hbw] at c2
      go_wp2_with fail
      refine (toVal_any _ _ _ _).mono ?_
      rintro e w2 ⟨rfl, hb2⟩
      have hown2 : w2.ownsRow w.heap.size 105 3 (.slice (some ⟨w.heap.size, 0, none⟩) n n) n (cells3 (partV L k)) := ownsRow_below hown hb2
      have hbel2 : Below w.heap.size w w2 := hbel.trans (hb2.mono hbel.size)
      have hlen : (cells3 (partV L k)).length = n * 3 := by rw [cells3_length, partV_length (by rw [← HN.out]; omega), ← HN.out]
      have hmem : ∀ j, j < 3 → ∃ u, w2.cell? ⟨w.heap.size, k * 3 + j, none⟩ = some u := fun j hj => by
        rw [hown2.cellAt (k * 3 + j) (by omega), List.getElem?_eq_getElem (by omega)]
        exact ⟨_, rfl⟩
      obtain ⟨u0, m0⟩ := hmem 0 (by omega)
      obtain ⟨u1, m1⟩ := hmem 1 (by omega)
      obtain ⟨u2, m2⟩ := hmem 2 (by omega)
      rw [Nat.add_zero] at m0
      have f0 := hown2.frozenAt (k * 3)
      have f1 := hown2.frozenAt (k * 3 + 1)
      have f2 := hown2.frozenAt (k * 3 + 2)
      have HO := hide (((hown2.stored (k * 3) (.int .i64 (vAt L k).K)).1.stored (k * 3 + 1) (.int .i64 (vAt L k).N)).1.stored (k * 3 + 2) (.string (vAt L k).S)).1
      have HB : Hid (Below w.heap.size w (((w2.setCell ⟨w.heap.size, k * 3, none⟩ (.int .i64 (vAt L k).K)).setCell ⟨w.heap.size, k * 3 + 1, none⟩ (.int .i64 (vAt L k).N)).setCell ⟨w.heap.size, k * 3 + 2, none⟩ (.string (vAt L k).S))) := ((hbel2.setCell (Nat.le_refl _) _).setCell (Nat.le_refl _) _).setCell (Nat.le_refl _) _
      rw [partV_set (by rw [← HN.out]; exact hlt)] at HO
      clear hmem hlen c0 c1 c2 hown hbel hb2
      generalize (vAt L k).K = K at HO HB ⊢
      generalize (vAt L k).N = N at HO HB ⊢
      generalize (vAt L k).S = S at HO HB ⊢
      clear hown2
      go_wp2
      go_roundw
      case rel => exact ⟨k + 1, by omega, by go_num, HO.out, HB.out⟩
      case measure => simp [intOf]; omega
    · have hkn : k = L.length := by rw [← HN.out]; omega
      have HK : Hid (wr.ownsRow w.heap.size 105 3 (.slice (some ⟨w.heap.size, 0, none⟩) n n) n (cells3 L)) := by
        have := hown
        rw [hkn, partV_end] at this
        exact this
      clear hkn hown
      go_wp2
      go_ret
      exact ⟨rfl, HK.out, hbel⟩

def szL (L : List V3) : Nat := L.length + (L.map fun v => v.S.size).sum
def sumS (L : List V3) (k : Nat) : Nat := ((L.take k).map fun v => v.S.size).sum
theorem sumS_step {L : List V3} {k : Nat} (h : k < L.length) : sumS L (k + 1) = sumS L k + (vAt L k).S.size := by
  unfold sumS; rw [List.take_succ_eq_append_getElem h, vAt_in h, List.map_append, List.sum_append]; simp only [List.map_cons, List.map_nil, List.sum_cons, List.sum_nil, Nat.add_zero]
theorem sumS_end (L : List V3) : sumS L L.length = (L.map fun v => v.S.size).sum := by unfold sumS; rw [List.take_length]
theorem mem_sum : ∀ {l : List Nat} {x : Nat}, x ∈ l → x ≤ l.sum
  | y :: r, x, h => by
    rw [List.sum_cons]
    rcases List.mem_cons.1 h with rfl | h
    · omega
    · have := mem_sum h; omega
theorem szL_mem {L : List V3} {v : V3} (h : v ∈ L) : v.S.size + L.length ≤ szL L := by
  unfold szL
  have : v.S.size ≤ (L.map fun v => v.S.size).sum := mem_sum (List.mem_map.2 ⟨v, h, rfl⟩)
  omega

set_option maxRecDepth 100000 in
set_option maxHeartbeats 1600000 in
theorem szValS_any (a : Option Addr) (cap : Nat) (L : List V3) (left : Int) (w : World) (hr : RdV w a L) (hs : ∀ v ∈ L, v.S.size ≤ maxLen) (hm : L.length ≤ maxLen) (h0 : 0 ≤ left) (h1 : left ≤ 1048576) :
    Calls Try.prog 151 #[.slice a L.length cap, .int .i64 left] w fun e w' =>
      (∃ r, e = .returned (.int .i64 r) ∧ (r = -1 ∨ (0 ≤ r ∧ r + (szL L : Int) = left))) ∧ Below w.heap.size w w' := by
  unfold maxLen at hm
  obtain ⟨n, hN⟩ : ∃ n, n = L.length := ⟨_, rfl⟩
  rw [← hN] at hm ⊢
  have HN := hide hN
  have HS := hide hs
  clear hN hs
  by_cases h2 : left - (n : Int) < 0
  · go_enter Try.func151, Try.ntmps151
    go_wp2
    go_ret
    exact ⟨⟨-1, rfl, .inl rfl⟩, Below.refl _ _⟩
  · go_enter Try.func151, Try.ntmps151
    go_wp2
    go_loopw [1, 5] (fun l i wr => ∃ (k : Nat) (lf : Int), k ≤ n ∧ i = .int .i64 k ∧ l = .int .i64 lf ∧ 0 ≤ lf ∧ lf + (sumS L k : Int) = left - n ∧ Below w.heap.size w wr) (fun _ i _ => n - (intOf i).toNat)
    case atStart => exact ⟨0, left - n, Nat.zero_le _, rfl, rfl, by omega, by simp [sumS], Below.refl _ _⟩
    case round =>
      obtain ⟨k, lf, hk, rfl, rfl, hlf, hsum, hbel⟩ := hrel
      by_cases hlt : k < n
      · obtain ⟨b, off, hab, hbw, hc⟩ := hr.open (by rw [← HN.out]; omega)
        obtain ⟨c0, c1, c2⟩ := hc k (by rw [← HN.out]; exact hlt)
        clear hc
        subst hab
        rw [← hbel.cell (p := ⟨b, off + k * 3, none⟩) hbw] at c0
        rw [← hbel.cell (p := ⟨b, off + k * 3 + 1, none⟩) hbw] at c1
        rw [← hbel.cell (p := ⟨b, off + k * 3 + 2, none⟩) hbw] at c2
        have hS : (vAt L k).S.size ≤ maxLen := by rw [vAt_in (by rw [← HN.out]; exact hlt)]; exact HS.out _ (List.getElem_mem _)
        have hst := sumS_step (L := L) (k := k) (by rw [← HN.out]; exact hlt)
        generalize (vAt L k).K = K at c0 ⊢
        generalize (vAt L k).N = N at c1 ⊢
        generalize (vAt L k).S = S at c2 hS hst ⊢
        go_wp2_with fail
        refine (szVal_any K N S lf _ hS hlf (by omega)).mono ?_
        rintro e w2 ⟨rfl, hb2⟩
        have hbel2 : Below w.heap.size w w2 := hbel.trans (hb2.mono hbel.size)
        clear hb2 c0 c1 c2 hbel
        by_cases h3 : lf - (S.size : Int) < 0
        · rw [if_pos h3]
          go_wp2
          go_ret
          exact ⟨⟨-1, rfl, .inl rfl⟩, hbel2⟩
        · rw [if_neg h3]
          go_wp2
          go_roundw
          case rel => exact ⟨k + 1, lf - S.size, by omega, by go_num, rfl, by omega, by rw [hst]; omega, hbel2⟩
          case measure => simp [intOf]; omega
      · have HK : Hid (lf + (szL L : Int) = left) := by
          unfold Hid szL
          have := sumS_end L
          have hkn : k = L.length := by rw [← HN.out]; omega
          rw [hkn] at hsum
          have := HN.out
          omega
        go_wp2
        go_ret
        exact ⟨⟨lf, rfl, .inr ⟨hlf, HK.out⟩⟩, hbel⟩

set_option maxRecDepth 100000 in
set_option maxHeartbeats 1600000 in
theorem szFact_any (kd : ByteArray) (a : Option Addr) (cap : Nat) (L : List V3) (left : Int) (w : World) (hkd : kd.size ≤ maxLen) (hr : RdV w a L) (hs : ∀ v ∈ L, v.S.size ≤ maxLen) (hm : L.length ≤ maxLen) (h0 : 0 ≤ left) (h1 : left ≤ 1048576) :
    Calls Try.prog 125 #[.agg #[.string kd, .slice a L.length cap], .int .i64 left] w fun e w' =>
      (∃ r, e = .returned (.int .i64 r) ∧ (r = -1 ∨ (0 ≤ r ∧ r + ((kd.size + szL L : Nat) : Int) = left))) ∧ Below w.heap.size w w' := by
  unfold maxLen at hkd
  by_cases h2 : left - (kd.size : Int) < 0
  · go_enter Try.func125, Try.ntmps125
    go_wp2
    go_ret
    exact ⟨⟨-1, rfl, .inl rfl⟩, by go_grown⟩
  · go_enter Try.func125, Try.ntmps125
    go_wp2_with fail
    refine (szValS_any a cap L (left - kd.size) _ (hr.below ((Below.refl _ _).alloc (Nat.le_refl _) _)) hs hm (by omega) (by omega)).mono ?_
    rintro e w1 ⟨⟨r, rfl, hr1⟩, hb1⟩
    have hB1 : Below w.heap.size w w1 := ((Below.refl w.heap.size w).alloc (Nat.le_refl _) _).trans (hb1.mono (by simp))
    clear hb1
    rcases hr1 with rfl | ⟨hr2, hr3⟩
    · go_wp2
      go_ret
      exact ⟨⟨-1, rfl, .inl rfl⟩, hB1⟩
    · go_wp2
      go_ret
      exact ⟨⟨r, rfl, .inr ⟨hr2, by omega⟩⟩, hB1⟩

theorem eqVal_any (K N : Int) (S : ByteArray) (w : World) (B : Nat) (h : w.heap.size = B) :
    Calls Try.prog 103 #[.agg #[.int .i64 K, .int .i64 N, .string S], .agg #[.int .i64 K, .int .i64 N, .string S]] w fun e w' =>
      e = .returned (.bool true) ∧ Below B w w' := by subst h; exact eqVal_same K N S w
set_option maxRecDepth 100000 in
set_option maxHeartbeats 1600000 in
theorem eqValS_same (a b : Option Addr) (ca cb : Nat) (L : List V3) (w : World) (hr : RdV w a L) (hq : RdV w b L) (hm : L.length ≤ 1048580) :
    Calls Try.prog 156 #[.slice a L.length ca, .slice b L.length cb] w fun e w' =>
      e = .returned (.bool true) ∧ Below w.heap.size w w' := by
  obtain ⟨n, hN⟩ : ∃ n, n = L.length := ⟨_, rfl⟩
  rw [← hN] at hm ⊢
  have HN := hide hN
  clear hN
  have hnn : ((n : Int) != (n : Int)) = false := by simp
  go_enter Try.func156, Try.ntmps156
  go_wp2
  go_loopw [5] (fun i wr => ∃ (k : Nat), k ≤ n ∧ i = .int .i64 k ∧ Below w.heap.size w wr) (fun i _ => n - (intOf i).toNat)
  case atStart => exact ⟨0, Nat.zero_le _, rfl, Below.refl _ _⟩
  case round =>
    obtain ⟨k, hk, rfl, hbel⟩ := hrel
    by_cases hlt : k < n
    · obtain ⟨b1, o1, e1, hbw1, hc1⟩ := hr.open (by rw [← HN.out]; omega)
      obtain ⟨b2, o2, e2, hbw2, hc2⟩ := hq.open (by rw [← HN.out]; omega)
      obtain ⟨c0, c1, c2⟩ := hc1 k (by rw [← HN.out]; exact hlt)
      obtain ⟨d0, d1, d2⟩ := hc2 k (by rw [← HN.out]; exact hlt)
      clear hc1 hc2
      subst e1 e2
      rw [← hbel.cell (p := ⟨b1, o1 + k * 3, none⟩) hbw1] at c0
      rw [← hbel.cell (p := ⟨b1, o1 + k * 3 + 1, none⟩) hbw1] at c1
      rw [← hbel.cell (p := ⟨b1, o1 + k * 3 + 2, none⟩) hbw1] at c2
      rw [← hbel.cell (p := ⟨b2, o2 + k * 3, none⟩) hbw2] at d0
      rw [← hbel.cell (p := ⟨b2, o2 + k * 3 + 1, none⟩) hbw2] at d1
      rw [← hbel.cell (p := ⟨b2, o2 + k * 3 + 2, none⟩) hbw2] at d2
      generalize (vAt L k).K = K at c0 d0
      generalize (vAt L k).N = N at c1 d1
      generalize (vAt L k).S = S at c2 d2
      go_wp2_with fail
      go_region_held3 (fun w' => w'.cell? ⟨b1, o1 + k * 3, none⟩ = some (.int .i64 K) ∧ w'.cell? ⟨b1, o1 + k * 3 + 1, none⟩ = some (.int .i64 N) ∧ w'.cell? ⟨b1, o1 + k * 3 + 2, none⟩ = some (.string S) ∧ w'.cell? ⟨b2, o2 + k * 3, none⟩ = some (.int .i64 K) ∧ w'.cell? ⟨b2, o2 + k * 3 + 1, none⟩ = some (.int .i64 N) ∧ w'.cell? ⟨b2, o2 + k * 3 + 2, none⟩ = some (.string S) ∧ Below w.heap.size w w' ∧ w.heap.size ≤ w'.heap.size) (first | exact ⟨c0, c1, c2, d0, d1, d2, hbel.drew, hbel.size⟩ | exact keep7 (by assumption) (by assumption))
        (first | (go_at_call 103; refine (eqVal_same _ _ _ _).mono ?_; rintro e w2 ⟨rfl, hb⟩))
      all_goals
        obtain ⟨-, -, -, -, -, -, hB2, -⟩ : w2.cell? ⟨b1, o1 + k * 3, none⟩ = some (.int .i64 K) ∧ w2.cell? ⟨b1, o1 + k * 3 + 1, none⟩ = some (.int .i64 N) ∧ w2.cell? ⟨b1, o1 + k * 3 + 2, none⟩ = some (.string S) ∧ w2.cell? ⟨b2, o2 + k * 3, none⟩ = some (.int .i64 K) ∧ w2.cell? ⟨b2, o2 + k * 3 + 1, none⟩ = some (.int .i64 N) ∧ w2.cell? ⟨b2, o2 + k * 3 + 2, none⟩ = some (.string S) ∧ Below w.heap.size w w2 ∧ w.heap.size ≤ w2.heap.size := by assumption
        go_wp2
        go_roundw
        case rel => exact ⟨k + 1, by omega, by go_num, hB2⟩
        case measure => simp [intOf]; omega
    · go_wp2
      go_ret
      exact ⟨rfl, hbel⟩
end Go.Proofs.Ytfgigcdfmkfkjaa
