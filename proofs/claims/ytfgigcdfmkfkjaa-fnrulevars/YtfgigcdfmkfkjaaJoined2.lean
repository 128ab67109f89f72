/-
  Texts of this claim joined into one: Keep6, LawFact, LawArg, DrawAr, LawPat, DrawPt, Box11, LawCond, DrawCd, LawExpr, DrawXs, DrawRw.
-/
import Derived.Test.YtfgigcdfmkfkjaaJoined1
import Derived.Deep.RegionHeld3
import Derived.Handy
import Derived.Deep.AppendLies
import Derived.Deep.RegionLaw
import Derived.Deep.DeepCutAuto
/-
  Six cells (two values in memory) are kept where all that was there is.
-/
namespace Go.Proofs.Ytfgigcdfmkfkjaa
open Go.RowKit
set_option linter.unusedVariables false

theorem keep6 {W w' : World} {a0 a1 a2 a3 a4 a5 : Addr} {v0 v1 v2 v3 v4 v5 : Value} (hb : Below W.heap.size W w')
    (h : W.cell? a0 = some v0 ∧ W.cell? a1 = some v1 ∧ W.cell? a2 = some v2 ∧ W.cell? a3 = some v3 ∧ W.cell? a4 = some v4 ∧ W.cell? a5 = some v5) :
    w'.cell? a0 = some v0 ∧ w'.cell? a1 = some v1 ∧ w'.cell? a2 = some v2 ∧ w'.cell? a3 = some v3 ∧ w'.cell? a4 = some v4 ∧ w'.cell? a5 = some v5 := by
  obtain ⟨h0, h1, h2, h3, h4, h5⟩ := h
  have k : ∀ {a : Addr} {v : Value}, W.cell? a = some v → w'.cell? a = some v := fun {a v} h => by rw [hb.cell (World.block_lt_of_cell? W _ h)]; exact h
  exact ⟨k h0, k h1, k h2, k h3, k h4, k h5⟩

/-- two values in memory, and all that was there at the head -/
theorem keep7 {w0 W w' : World} {B : Nat} {a0 a1 a2 a3 a4 a5 : Addr} {v0 v1 v2 v3 v4 v5 : Value} (hb : Below W.heap.size W w')
    (h : W.cell? a0 = some v0 ∧ W.cell? a1 = some v1 ∧ W.cell? a2 = some v2 ∧ W.cell? a3 = some v3 ∧ W.cell? a4 = some v4 ∧ W.cell? a5 = some v5 ∧ Below B w0 W ∧ B ≤ W.heap.size) :
    w'.cell? a0 = some v0 ∧ w'.cell? a1 = some v1 ∧ w'.cell? a2 = some v2 ∧ w'.cell? a3 = some v3 ∧ w'.cell? a4 = some v4 ∧ w'.cell? a5 = some v5 ∧ Below B w0 w' ∧ B ≤ w'.heap.size := by
  obtain ⟨h0, h1, h2, h3, h4, h5, h6, h7⟩ := h
  have k : ∀ {a : Addr} {v : Value}, W.cell? a = some v → w'.cell? a = some v := fun {a v} h => by rw [hb.cell (World.block_lt_of_cell? W _ h)]; exact h
  exact ⟨k h0, k h1, k h2, k h3, k h4, k h5, h6.trans (hb.mono h7), Nat.le_trans h7 hb.size⟩

theorem below_al (w : World) (o : Obj) : Below w.heap.size w (w.alloc o) := (Below.refl _ _).alloc (Nat.le_refl _) _
theorem below_ald (w : World) (o : Obj) : Below w.heap.size w (w.alloc o).drew := (below_al w o).drew
/-- a store of three cells into a block that was made where the two values lay -/
theorem keep7s {w0 W W1 : World} {B : Nat} {a0 a1 a2 a3 a4 a5 : Addr} {v0 v1 v2 v3 v4 v5 x y z : Value}
    (h1 : W1.cell? a0 = some v0 ∧ W1.cell? a1 = some v1 ∧ W1.cell? a2 = some v2 ∧ W1.cell? a3 = some v3 ∧ W1.cell? a4 = some v4 ∧ W1.cell? a5 = some v5 ∧ Below B w0 W1 ∧ B ≤ W1.heap.size)
    (h : W.cell? a0 = some v0 ∧ W.cell? a1 = some v1 ∧ W.cell? a2 = some v2 ∧ W.cell? a3 = some v3 ∧ W.cell? a4 = some v4 ∧ W.cell? a5 = some v5 ∧ Below B w0 W ∧ B ≤ W.heap.size)
    (hq : ∃ c0 c1 c2 T, W.heap[W1.heap.size]? = some (.cells #[c0, c1, c2] T (0, 0))) :
    (((W.setCell ⟨W1.heap.size, 0, none⟩ x).setCell ⟨W1.heap.size, 1, none⟩ y).setCell ⟨W1.heap.size, 2, none⟩ z).cell? a0 = some v0 ∧ (((W.setCell ⟨W1.heap.size, 0, none⟩ x).setCell ⟨W1.heap.size, 1, none⟩ y).setCell ⟨W1.heap.size, 2, none⟩ z).cell? a1 = some v1 ∧ (((W.setCell ⟨W1.heap.size, 0, none⟩ x).setCell ⟨W1.heap.size, 1, none⟩ y).setCell ⟨W1.heap.size, 2, none⟩ z).cell? a2 = some v2 ∧ (((W.setCell ⟨W1.heap.size, 0, none⟩ x).setCell ⟨W1.heap.size, 1, none⟩ y).setCell ⟨W1.heap.size, 2, none⟩ z).cell? a3 = some v3 ∧ (((W.setCell ⟨W1.heap.size, 0, none⟩ x).setCell ⟨W1.heap.size, 1, none⟩ y).setCell ⟨W1.heap.size, 2, none⟩ z).cell? a4 = some v4 ∧ (((W.setCell ⟨W1.heap.size, 0, none⟩ x).setCell ⟨W1.heap.size, 1, none⟩ y).setCell ⟨W1.heap.size, 2, none⟩ z).cell? a5 = some v5 ∧ Below B w0 (((W.setCell ⟨W1.heap.size, 0, none⟩ x).setCell ⟨W1.heap.size, 1, none⟩ y).setCell ⟨W1.heap.size, 2, none⟩ z) ∧ B ≤ (((W.setCell ⟨W1.heap.size, 0, none⟩ x).setCell ⟨W1.heap.size, 1, none⟩ y).setCell ⟨W1.heap.size, 2, none⟩ z).heap.size := by
  obtain ⟨c0, c1, c2, T, hq⟩ := hq
  obtain ⟨-, g⟩ := box_set3 hq x y z
  generalize ((W.setCell ⟨W1.heap.size, 0, none⟩ x).setCell ⟨W1.heap.size, 1, none⟩ y).setCell ⟨W1.heap.size, 2, none⟩ z = Y at g ⊢
  obtain ⟨p0, p1, p2, p3, p4, p5, p6, p7⟩ := h1
  obtain ⟨h0, h1, h2, h3, h4, h5, h6, h7⟩ := h
  have k : ∀ {a : Addr} {u v : Value}, W1.cell? a = some u → W.cell? a = some v → Y.cell? a = some v := fun {a u v} p h => g.cell h (by have := World.block_lt_of_cell? W1 _ p; simp; omega)
  exact ⟨k p0 h0, k p1 h1, k p2 h2, k p3 h3, k p4 h4, k p5 h5, h6.grown g h7 (fun j hj => by cases hj; exact p7), Nat.le_trans h7 g.size⟩
theorem below_dr {w u : World} (k : Below w.drew.heap.size w.drew u) : Below w.heap.size w u := (Below.refl w.heap.size w).drew.trans k
theorem below_step {w u v : World} (h : Below w.heap.size w u) (k : Below u.heap.size u v) : Below w.heap.size w v := h.trans (k.mono h.size)
theorem below_end {w u : World} (h : Below w.heap.size w u) (o : Obj) : Below w.heap.size w (u.alloc o) := h.alloc h.size o
theorem box_step {w w' : World} {R : Nat} {o : Obj} (h : w.heap[R]? = some o) (hb : Below w.heap.size w w') : w'.heap[R]? = some o := box_below h hb (Array.getElem?_eq_some_iff.1 h).1
theorem box_newd (w : World) (c0 c1 c2 : Value) (T : TypeId) : (w.alloc (.cells #[c0, c1, c2] T)).drew.heap[w.heap.size]? = some (.cells #[c0, c1, c2] T (0, 0)) := box_new w c0 c1 c2 T
end Go.Proofs.Ytfgigcdfmkfkjaa
/-
  The contracts of the laws' own helpers on rows of values and on facts.
-/
namespace Go.Proofs.Ytfgigcdfmkfkjaa
open Go.RowKit
set_option linter.unusedVariables false

theorem Try.info105 : (Try.prog.info? 105).map (fun i => (i.zero, i.size, i.bytes)) = some (some (.agg #[.int .i64 0, .int .i64 0, .string ⟨#[]⟩]), 3, 32) := by kernel_rfl

/-- the first k values copied, the rest still zero -/
def partV (L : List V3) (k : Nat) : List V3 := L.take k ++ List.replicate (L.length - k) ⟨0, 0, ⟨#[]⟩⟩
theorem partV_length {L : List V3} {k : Nat} (h : k ≤ L.length) : (partV L k).length = L.length := by simp [partV]; omega
theorem partV_zero (L : List V3) : partV L 0 = List.replicate L.length ⟨0, 0, ⟨#[]⟩⟩ := by simp [partV]
theorem partV_end (L : List V3) : partV L L.length = L := by simp [partV]
theorem cells3_set (L M : List V3) (v : V3) (x : V3) :
    (((cells3 (L ++ x :: M)).set (L.length * 3) (.int .i64 v.K)).set (L.length * 3 + 1) (.int .i64 v.N)).set (L.length * 3 + 2) (.string v.S) = cells3 (L ++ v :: M) := by
  have e : ∀ y : V3, cells3 (L ++ y :: M) = cells3 L ++ (.int .i64 y.K :: .int .i64 y.N :: .string y.S :: cells3 M) := fun y => by simp [cells3]
  have hl := cells3_length L
  rw [e, e, List.set_append_right _ _ (by omega), hl, Nat.sub_self, List.set_append_right _ _ (by omega), hl, List.set_append_right _ _ (by omega), hl]
  simp
theorem partV_set {L : List V3} {k : Nat} (h : k < L.length) :
    (((cells3 (partV L k)).set (k * 3) (.int .i64 (vAt L k).K)).set (k * 3 + 1) (.int .i64 (vAt L k).N)).set (k * 3 + 2) (.string (vAt L k).S) = cells3 (partV L (k + 1)) := by
  have h1 : partV L k = L.take k ++ ⟨0, 0, ⟨#[]⟩⟩ :: List.replicate (L.length - (k + 1)) ⟨0, 0, ⟨#[]⟩⟩ := by
    unfold partV; rw [show L.length - k = (L.length - (k + 1)) + 1 by omega, List.replicate_succ]
  have h2 : partV L (k + 1) = L.take k ++ vAt L k :: List.replicate (L.length - (k + 1)) ⟨0, 0, ⟨#[]⟩⟩ := by
    unfold partV; rw [List.take_succ_eq_append_getElem h, vAt_in h, List.append_assoc]; rfl
  have := cells3_set (L.take k) (List.replicate (L.length - (k + 1)) ⟨0, 0, ⟨#[]⟩⟩) (vAt L k) ⟨0, 0, ⟨#[]⟩⟩
  rw [List.length_take, Nat.min_eq_left (by omega)] at this
  rw [h1, h2]; exact this
theorem made3 (n : Nat) : (madeCells #[Value.int .i64 0, .int .i64 0, .string ⟨#[]⟩] (n * 3)).toList = cells3 (List.replicate n ⟨0, 0, ⟨#[]⟩⟩) := by
  have hl : (madeCells #[Value.int .i64 0, .int .i64 0, .string ⟨#[]⟩] (n * 3)).toList.length = n * 3 := by simp [madeCells]
  apply List.ext_getElem?
  intro j
  by_cases hj : j < n * 3
  · obtain ⟨i, r, rfl, hr⟩ : ∃ i r, j = i * 3 + r ∧ r < 3 := ⟨j / 3, j % 3, by omega, by omega⟩
    have hi : i < (List.replicate n (⟨0, 0, ⟨#[]⟩⟩ : V3)).length := by simp; omega
    obtain ⟨g0, g1, g2⟩ := cells3_get (List.replicate n ⟨0, 0, ⟨#[]⟩⟩) i hi
    have ev : vAt (List.replicate n (⟨0, 0, ⟨#[]⟩⟩ : V3)) i = ⟨0, 0, ⟨#[]⟩⟩ := by rw [vAt_in hi]; simp
    rw [ev] at g0 g1 g2
    match r, hr with
    | 0, _ => rw [Nat.add_zero, g0]; simp [madeCells, show i * 3 < n * 3 by omega]
    | 1, _ => rw [g1]; simp [madeCells, show i * 3 + 1 < n * 3 by omega, show (i * 3 + 1) % 3 = 1 by omega]
    | 2, _ => rw [g2]; simp [madeCells, show i * 3 + 2 < n * 3 by omega, show (i * 3 + 2) % 3 = 2 by omega]
  · rw [List.getElem?_eq_none (by omega), List.getElem?_eq_none (by rw [cells3_length]; simp; omega)]

theorem ownsRow_below {w w' : World} {base n size : Nat} {e : TypeId} {v : Value} {xs : List Value} (h : w.ownsRow base e size v n xs) (hb : Below w.heap.size w w') : w'.ownsRow base e size v n xs := by
  refine ⟨h.1, ?_⟩
  rcases h.2 with h2 | ⟨g, cap, cur, h1, hb', hh, rest⟩
  · exact .inl h2
  · exact .inr ⟨g, cap, cur, h1, hb', by rw [hb.block g (Array.getElem?_eq_some_iff.1 hh).1]; exact hh, rest⟩

set_option maxRecDepth 100000 in
set_option maxHeartbeats 1600000 in
theorem toValS_at (a : Option Addr) (cap : Nat) (L : List V3) (w : World) (hr : RdV w a L) (hn : L.length ≤ 1048576) :
    Calls Try.prog 153 #[.slice a L.length cap] w fun e w' =>
      e = .returned (.slice (some ⟨w.heap.size, 0, none⟩) L.length L.length) ∧ w'.ownsRow w.heap.size 105 3 (.slice (some ⟨w.heap.size, 0, none⟩) L.length L.length) L.length (cells3 L) ∧ Below w.heap.size w w' := by
  obtain ⟨i0, hi, hz0, hz1, hz2⟩ := info_parts Try.info105
  obtain ⟨n, hN⟩ : ∃ n, n = L.length := ⟨_, rfl⟩
  rw [← hN] at hn ⊢
  have HN := hide hN
  clear hN
  go_enter Try.func153, Try.ntmps153
  go_wp2_with (at_make; refine wpList_make_full _ rfl _ _ 87 rfl w.heap.size 105 i0 (.agg #[.int .i64 0, .int .i64 0, .string ⟨#[]⟩]) 3 Try.underlying87 hi hz0 hz1 _ _ _ _ n rfl rfl (by omega) (by omega) ?b2 ?b3 (Nat.le_refl _) ?_)
  case b2 => rw [hz2]; omega
  case b3 => unfold maxLen; omega
  intro w0 hown0 hgrow0
  rw [made3] at hown0
  go_wp2
  go_loopw [4] (fun i wr => ∃ k : Nat, k ≤ n ∧ i = .int .i64 k ∧ wr.ownsRow w.heap.size 105 3 (.slice (some ⟨w.heap.size, 0, none⟩) n n) n (cells3 (partV L k)) ∧ Below w.heap.size w wr)
    (fun i _ => n - (intOf i).toNat)
  case atStart =>
    refine ⟨0, Nat.zero_le _, rfl, ?_, (Below.refl _ _).grown hgrow0 (Nat.le_refl _) (fun k h => by cases h)⟩
    rw [partV_zero, ← HN.out]
    exact hown0
  case round =>
    obtain ⟨k, hk, rfl, hown, hbel⟩ := hrel
    by_cases hlt : k < n
    · obtain ⟨b, off, hab, hbw, hc⟩ := hr.open (by rw [← HN.out]; omega)
      obtain ⟨c0, c1, c2⟩ := hc k (by rw [← HN.out]; exact hlt)
      clear hc
      subst hab
      rw [← hbel.cell (p := ⟨b, off + k * 3, none⟩) hbw] at c0
      rw [← hbel.cell (p := ⟨b, off + k * 3 + 1, none⟩) hbw] at c1
      rw [← hbel.cell (p := ⟨b, off + k * 3 + 2, none⟩) hbw] at c2
      go_wp2_with fail
      refine (toVal_any _ _ _ _).mono ?_
      rintro e w2 ⟨rfl, hb2⟩
      have hown2 : w2.ownsRow w.heap.size 105 3 (.slice (some ⟨w.heap.size, 0, none⟩) n n) n (cells3 (partV L k)) := ownsRow_below hown hb2
      have hbel2 : Below w.heap.size w w2 := hbel.trans (hb2.mono hbel.size)
      have hlen : (cells3 (partV L k)).length = n * 3 := by rw [cells3_length, partV_length (by rw [← HN.out]; omega), ← HN.out]
      have hmem : ∀ j, j < 3 → ∃ u, w2.cell? ⟨w.heap.size, k * 3 + j, none⟩ = some u := fun j hj => by
        rw [hown2.cellAt (k * 3 + j) (by omega), List.getElem?_eq_getElem (by omega)]
        exact ⟨_, rfl⟩
      obtain ⟨u0, m0⟩ := hmem 0 (by omega)
      obtain ⟨u1, m1⟩ := hmem 1 (by omega)
      obtain ⟨u2, m2⟩ := hmem 2 (by omega)
      rw [Nat.add_zero] at m0
      have f0 := hown2.frozenAt (k * 3)
      have f1 := hown2.frozenAt (k * 3 + 1)
      have f2 := hown2.frozenAt (k * 3 + 2)
      have HO := hide (((hown2.stored (k * 3) (.int .i64 (vAt L k).K)).1.stored (k * 3 + 1) (.int .i64 (vAt L k).N)).1.stored (k * 3 + 2) (.string (vAt L k).S)).1
      have HB : Hid (Below w.heap.size w (((w2.setCell ⟨w.heap.size, k * 3, none⟩ (.int .i64 (vAt L k).K)).setCell ⟨w.heap.size, k * 3 + 1, none⟩ (.int .i64 (vAt L k).N)).setCell ⟨w.heap.size, k * 3 + 2, none⟩ (.string (vAt L k).S))) := ((hbel2.setCell (Nat.le_refl _) _).setCell (Nat.le_refl _) _).setCell (Nat.le_refl _) _
      rw [partV_set (by rw [← HN.out]; exact hlt)] at HO
      clear hmem hlen c0 c1 c2 hown hbel hb2
      generalize (vAt L k).K = K at HO HB ⊢
      generalize (vAt L k).N = N at HO HB ⊢
      generalize (vAt L k).S = S at HO HB ⊢
      clear hown2
      go_wp2
      go_roundw
      case rel => exact ⟨k + 1, by omega, by go_num, HO.out, HB.out⟩
      case measure => simp [intOf]; omega
    · have hkn : k = L.length := by rw [← HN.out]; omega
      have HK : Hid (wr.ownsRow w.heap.size 105 3 (.slice (some ⟨w.heap.size, 0, none⟩) n n) n (cells3 L)) := by
        have := hown
        rw [hkn, partV_end] at this
        exact this
      clear hkn hown
      go_wp2
      go_ret
      exact ⟨rfl, HK.out, hbel⟩

def szL (L : List V3) : Nat := L.length + (L.map fun v => v.S.size).sum
def sumS (L : List V3) (k : Nat) : Nat := ((L.take k).map fun v => v.S.size).sum
theorem sumS_step {L : List V3} {k : Nat} (h : k < L.length) : sumS L (k + 1) = sumS L k + (vAt L k).S.size := by
  unfold sumS; rw [List.take_succ_eq_append_getElem h, vAt_in h, List.map_append, List.sum_append]; simp only [List.map_cons, List.map_nil, List.sum_cons, List.sum_nil, Nat.add_zero]
theorem sumS_end (L : List V3) : sumS L L.length = (L.map fun v => v.S.size).sum := by unfold sumS; rw [List.take_length]
theorem mem_sum : ∀ {l : List Nat} {x : Nat}, x ∈ l → x ≤ l.sum
  | y :: r, x, h => by
    rw [List.sum_cons]
    rcases List.mem_cons.1 h with rfl | h
    · omega
    · have := mem_sum h; omega
theorem szL_mem {L : List V3} {v : V3} (h : v ∈ L) : v.S.size + L.length ≤ szL L := by
  unfold szL
  have : v.S.size ≤ (L.map fun v => v.S.size).sum := mem_sum (List.mem_map.2 ⟨v, h, rfl⟩)
  omega

set_option maxRecDepth 100000 in
set_option maxHeartbeats 1600000 in
theorem szValS_any (a : Option Addr) (cap : Nat) (L : List V3) (left : Int) (w : World) (hr : RdV w a L) (hs : ∀ v ∈ L, v.S.size ≤ maxLen) (hm : L.length ≤ maxLen) (h0 : 0 ≤ left) (h1 : left ≤ 1048576) :
    Calls Try.prog 151 #[.slice a L.length cap, .int .i64 left] w fun e w' =>
      (∃ r, e = .returned (.int .i64 r) ∧ (r = -1 ∨ (0 ≤ r ∧ r + (szL L : Int) = left))) ∧ Below w.heap.size w w' := by
  unfold maxLen at hm
  obtain ⟨n, hN⟩ : ∃ n, n = L.length := ⟨_, rfl⟩
  rw [← hN] at hm ⊢
  have HN := hide hN
  have HS := hide hs
  clear hN hs
  by_cases h2 : left - (n : Int) < 0
  · go_enter Try.func151, Try.ntmps151
    go_wp2
    go_ret
    exact ⟨⟨-1, rfl, .inl rfl⟩, Below.refl _ _⟩
  · go_enter Try.func151, Try.ntmps151
    go_wp2
    go_loopw [1, 5] (fun l i wr => ∃ (k : Nat) (lf : Int), k ≤ n ∧ i = .int .i64 k ∧ l = .int .i64 lf ∧ 0 ≤ lf ∧ lf + (sumS L k : Int) = left - n ∧ Below w.heap.size w wr) (fun _ i _ => n - (intOf i).toNat)
    case atStart => exact ⟨0, left - n, Nat.zero_le _, rfl, rfl, by omega, by simp [sumS], Below.refl _ _⟩
    case round =>
      obtain ⟨k, lf, hk, rfl, rfl, hlf, hsum, hbel⟩ := hrel
      by_cases hlt : k < n
      · obtain ⟨b, off, hab, hbw, hc⟩ := hr.open (by rw [← HN.out]; omega)
        obtain ⟨c0, c1, c2⟩ := hc k (by rw [← HN.out]; exact hlt)
        clear hc
        subst hab
        rw [← hbel.cell (p := ⟨b, off + k * 3, none⟩) hbw] at c0
        rw [← hbel.cell (p := ⟨b, off + k * 3 + 1, none⟩) hbw] at c1
        rw [← hbel.cell (p := ⟨b, off + k * 3 + 2, none⟩) hbw] at c2
        have hS : (vAt L k).S.size ≤ maxLen := by rw [vAt_in (by rw [← HN.out]; exact hlt)]; exact HS.out _ (List.getElem_mem _)
        have hst := sumS_step (L := L) (k := k) (by rw [← HN.out]; exact hlt)
        generalize (vAt L k).K = K at c0 ⊢
        generalize (vAt L k).N = N at c1 ⊢
        generalize (vAt L k).S = S at c2 hS hst ⊢
        go_wp2_with fail
        refine (szVal_any K N S lf _ hS hlf (by omega)).mono ?_
        rintro e w2 ⟨rfl, hb2⟩
        have hbel2 : Below w.heap.size w w2 := hbel.trans (hb2.mono hbel.size)
        clear hb2 c0 c1 c2 hbel
        by_cases h3 : lf - (S.size : Int) < 0
        · rw [if_pos h3]
          go_wp2
          go_ret
          exact ⟨⟨-1, rfl, .inl rfl⟩, hbel2⟩
        · rw [if_neg h3]
          go_wp2
          go_roundw
          case rel => exact ⟨k + 1, lf - S.size, by omega, by go_num, rfl, by omega, by rw [hst]; omega, hbel2⟩
          case measure => simp [intOf]; omega
      · have HK : Hid (lf + (szL L : Int) = left) := by
          unfold Hid szL
          have := sumS_end L
          have hkn : k = L.length := by rw [← HN.out]; omega
          rw [hkn] at hsum
          have := HN.out
          omega
        go_wp2
        go_ret
        exact ⟨⟨lf, rfl, .inr ⟨hlf, HK.out⟩⟩, hbel⟩

set_option maxRecDepth 100000 in
set_option maxHeartbeats 1600000 in
theorem szFact_any (kd : ByteArray) (a : Option Addr) (cap : Nat) (L : List V3) (left : Int) (w : World) (hkd : kd.size ≤ maxLen) (hr : RdV w a L) (hs : ∀ v ∈ L, v.S.size ≤ maxLen) (hm : L.length ≤ maxLen) (h0 : 0 ≤ left) (h1 : left ≤ 1048576) :
    Calls Try.prog 125 #[.agg #[.string kd, .slice a L.length cap], .int .i64 left] w fun e w' =>
      (∃ r, e = .returned (.int .i64 r) ∧ (r = -1 ∨ (0 ≤ r ∧ r + ((kd.size + szL L : Nat) : Int) = left))) ∧ Below w.heap.size w w' := by
  unfold maxLen at hkd
  by_cases h2 : left - (kd.size : Int) < 0
  · go_enter Try.func125, Try.ntmps125
    go_wp2
    go_ret
    exact ⟨⟨-1, rfl, .inl rfl⟩, by go_grown⟩
  · go_enter Try.func125, Try.ntmps125
    go_wp2_with fail
    refine (szValS_any a cap L (left - kd.size) _ (hr.below ((Below.refl _ _).alloc (Nat.le_refl _) _)) hs hm (by omega) (by omega)).mono ?_
    rintro e w1 ⟨⟨r, rfl, hr1⟩, hb1⟩
    have hB1 : Below w.heap.size w w1 := ((Below.refl w.heap.size w).alloc (Nat.le_refl _) _).trans (hb1.mono (by simp))
    clear hb1
    rcases hr1 with rfl | ⟨hr2, hr3⟩
    · go_wp2
      go_ret
      exact ⟨⟨-1, rfl, .inl rfl⟩, hB1⟩
    · go_wp2
      go_ret
      exact ⟨⟨r, rfl, .inr ⟨hr2, by omega⟩⟩, hB1⟩

theorem eqVal_any (K N : Int) (S : ByteArray) (w : World) (B : Nat) (h : w.heap.size = B) :
    Calls Try.prog 103 #[.agg #[.int .i64 K, .int .i64 N, .string S], .agg #[.int .i64 K, .int .i64 N, .string S]] w fun e w' =>
      e = .returned (.bool true) ∧ Below B w w' := by subst h; exact eqVal_same K N S w
set_option maxRecDepth 100000 in
set_option maxHeartbeats 1600000 in
theorem eqValS_same (a b : Option Addr) (ca cb : Nat) (L : List V3) (w : World) (hr : RdV w a L) (hq : RdV w b L) (hm : L.length ≤ 1048580) :
    Calls Try.prog 156 #[.slice a L.length ca, .slice b L.length cb] w fun e w' =>
      e = .returned (.bool true) ∧ Below w.heap.size w w' := by
  obtain ⟨n, hN⟩ : ∃ n, n = L.length := ⟨_, rfl⟩
  rw [← hN] at hm ⊢
  have HN := hide hN
  clear hN
  have hnn : ((n : Int) != (n : Int)) = false := by simp
  go_enter Try.func156, Try.ntmps156
  go_wp2
  go_loopw [5] (fun i wr => ∃ (k : Nat), k ≤ n ∧ i = .int .i64 k ∧ Below w.heap.size w wr) (fun i _ => n - (intOf i).toNat)
  case atStart => exact ⟨0, Nat.zero_le _, rfl, Below.refl _ _⟩
  case round =>
    obtain ⟨k, hk, rfl, hbel⟩ := hrel
    by_cases hlt : k < n
    · obtain ⟨b1, o1, e1, hbw1, hc1⟩ := hr.open (by rw [← HN.out]; omega)
      obtain ⟨b2, o2, e2, hbw2, hc2⟩ := hq.open (by rw [← HN.out]; omega)
      obtain ⟨c0, c1, c2⟩ := hc1 k (by rw [← HN.out]; exact hlt)
      obtain ⟨d0, d1, d2⟩ := hc2 k (by rw [← HN.out]; exact hlt)
      clear hc1 hc2
      subst e1 e2
      rw [← hbel.cell (p := ⟨b1, o1 + k * 3, none⟩) hbw1] at c0
      rw [← hbel.cell (p := ⟨b1, o1 + k * 3 + 1, none⟩) hbw1] at c1
      rw [← hbel.cell (p := ⟨b1, o1 + k * 3 + 2, none⟩) hbw1] at c2
      rw [← hbel.cell (p := ⟨b2, o2 + k * 3, none⟩) hbw2] at d0
      rw [← hbel.cell (p := ⟨b2, o2 + k * 3 + 1, none⟩) hbw2] at d1
      rw [← hbel.cell (p := ⟨b2, o2 + k * 3 + 2, none⟩) hbw2] at d2
      generalize (vAt L k).K = K at c0 d0
      generalize (vAt L k).N = N at c1 d1
      generalize (vAt L k).S = S at c2 d2
      go_wp2_with fail
      go_region_held3 (fun w' => w'.cell? ⟨b1, o1 + k * 3, none⟩ = some (.int .i64 K) ∧ w'.cell? ⟨b1, o1 + k * 3 + 1, none⟩ = some (.int .i64 N) ∧ w'.cell? ⟨b1, o1 + k * 3 + 2, none⟩ = some (.string S) ∧ w'.cell? ⟨b2, o2 + k * 3, none⟩ = some (.int .i64 K) ∧ w'.cell? ⟨b2, o2 + k * 3 + 1, none⟩ = some (.int .i64 N) ∧ w'.cell? ⟨b2, o2 + k * 3 + 2, none⟩ = some (.string S) ∧ Below w.heap.size w w' ∧ w.heap.size ≤ w'.heap.size) (first | exact ⟨c0, c1, c2, d0, d1, d2, hbel.drew, hbel.size⟩ | exact keep7 (by assumption) (by assumption))
        (first | (go_at_call 103; refine (eqVal_same _ _ _ _).mono ?_; rintro e w2 ⟨rfl, hb⟩))
      all_goals
        obtain ⟨-, -, -, -, -, -, hB2, -⟩ : w2.cell? ⟨b1, o1 + k * 3, none⟩ = some (.int .i64 K) ∧ w2.cell? ⟨b1, o1 + k * 3 + 1, none⟩ = some (.int .i64 N) ∧ w2.cell? ⟨b1, o1 + k * 3 + 2, none⟩ = some (.string S) ∧ w2.cell? ⟨b2, o2 + k * 3, none⟩ = some (.int .i64 K) ∧ w2.cell? ⟨b2, o2 + k * 3 + 1, none⟩ = some (.int .i64 N) ∧ w2.cell? ⟨b2, o2 + k * 3 + 2, none⟩ = some (.string S) ∧ Below w.heap.size w w2 ∧ w.heap.size ≤ w2.heap.size := by assumption
        go_wp2
        go_roundw
        case rel => exact ⟨k + 1, by omega, by go_num, hB2⟩
        case measure => simp [intOf]; omega
    · go_wp2
      go_ret
      exact ⟨rfl, hbel⟩
end Go.Proofs.Ytfgigcdfmkfkjaa
/-
  The contracts of the laws' own helpers on Args: to copies, sz counts off, eq finds one the same as itself; so of rows of them.
-/
namespace Go.Proofs.Ytfgigcdfmkfkjaa
open Go.RowKit
set_option linter.unusedVariables false

theorem Try.info157 : (Try.prog.info? 157).map (fun i => (i.zero, i.size, i.bytes)) = some (some (.agg #[.int .i64 0, .string ⟨#[]⟩, .int .i64 0, .int .i64 0, .string ⟨#[]⟩]), 5, 56) := by kernel_rfl

set_option maxRecDepth 100000 in
set_option maxHeartbeats 1600000 in
theorem toArg_any (K : Int) (S : ByteArray) (VK : Int) (VN : Int) (VS : ByteArray) (w : World) :
    Calls Try.prog 127 #[.agg #[.int .i64 K, .string S, .int .i64 VK, .int .i64 VN, .string VS]] w fun e w' => e = .returned (.agg #[.int .i64 K, .string S, .int .i64 VK, .int .i64 VN, .string VS]) ∧ Below w.heap.size w w' := by
  go_enter Try.func127, Try.ntmps127
  go_wp2_with fail
  have b0 := below_al w (.cells #[.int .i64 K, .string S, .int .i64 VK, .int .i64 VN, .string VS] 142)
  have b1 := b0.alloc b0.size (.cells #[.int .i64 0, .string ⟨#[]⟩, .int .i64 0, .int .i64 0, .string ⟨#[]⟩] 157)
  have b2 := b1.alloc b1.size (.cells #[.int .i64 K, .string S, .int .i64 0, .int .i64 0, .string ⟨#[]⟩] 157)
  have hR := box_old (boxk_new (w.alloc (.cells #[.int .i64 K, .string S, .int .i64 VK, .int .i64 VN, .string VS] 142)) #[.int .i64 0, .string ⟨#[]⟩, .int .i64 0, .int .i64 0, .string ⟨#[]⟩] 157) (by simp) (.cells #[.int .i64 K, .string S, .int .i64 0, .int .i64 0, .string ⟨#[]⟩] 157)
  have hX := boxk_new ((w.alloc (.cells #[.int .i64 K, .string S, .int .i64 VK, .int .i64 VN, .string VS] 142)).alloc (.cells #[.int .i64 0, .string ⟨#[]⟩, .int .i64 0, .int .i64 0, .string ⟨#[]⟩] 157)) #[.int .i64 K, .string S, .int .i64 0, .int .i64 0, .string ⟨#[]⟩] 157
  simp only [World.size_alloc] at hR hX
  refine (toVal_any VK VN VS _).mono ?_
  rintro e w1 ⟨rfl, hb⟩
  have HR := hide (box_below hR hb (by simp))
  have HX := hide (box_below hX hb (by simp))
  have hB : Below w.heap.size w w1 := b2.trans (hb.mono b2.size)
  clear hb hR hX b0 b1 b2
  have x0 := boxk_cell HX.out 0 _ rfl
  have xf0 := boxk_frozen HX.out 0
  have r0 := boxk_cell HR.out 0 _ rfl
  have rf0 := boxk_frozen HR.out 0
  have x1 := boxk_cell HX.out 1 _ rfl
  have xf1 := boxk_frozen HX.out 1
  have r1 := boxk_cell HR.out 1 _ rfl
  have rf1 := boxk_frozen HR.out 1
  have x2 := boxk_cell HX.out 2 _ rfl
  have xf2 := boxk_frozen HX.out 2
  have r2 := boxk_cell HR.out 2 _ rfl
  have rf2 := boxk_frozen HR.out 2
  have x3 := boxk_cell HX.out 3 _ rfl
  have xf3 := boxk_frozen HX.out 3
  have r3 := boxk_cell HR.out 3 _ rfl
  have rf3 := boxk_frozen HR.out 3
  have x4 := boxk_cell HX.out 4 _ rfl
  have xf4 := boxk_frozen HX.out 4
  have r4 := boxk_cell HR.out 4 _ rfl
  have rf4 := boxk_frozen HR.out 4
  have HX2 := hide (boxk_set HX.out 2 (.int .i64 VK))
  have HX3 := hide (boxk_set HX2.out.1 3 (.int .i64 VN))
  have HX4 := hide (boxk_set HX3.out.1 4 (.string VS))
  have HR2 := hide (box_gr (box_gr (box_gr HR.out HX2.out.2 (by omega)) HX3.out.2 (by omega)) HX4.out.2 (by omega))
  have HB2 := hide (below_set (below_set (below_set hB HX2.out.2 (by omega)) HX3.out.2 (by omega)) HX4.out.2 (by omega))
  go_wp2
  refine box5_post HR2.out (fun w4 h4 gr => ?_)
  clear x0 xf0 r0 rf0 x1 xf1 r1 rf1 x2 xf2 r2 rf2 x3 xf3 r3 rf3 x4 xf4 r4 rf4
  have c0 := boxk_cell h4 0 _ rfl
  have c1 := boxk_cell h4 1 _ rfl
  have c2 := boxk_cell h4 2 _ rfl
  have c3 := boxk_cell h4 3 _ rfl
  have c4 := boxk_cell h4 4 _ rfl
  exact bodyPost_ret (v := .agg #[.int .i64 K, .string S, .int .i64 VK, .int .i64 VN, .string VS]) (by simp [results, Try.results127, go_sem, c0, c1, c2, c3, c4]) rfl ⟨rfl, below_set HB2.out gr (by omega)⟩

set_option maxRecDepth 100000 in
set_option maxHeartbeats 1600000 in
theorem szArg_any (K : Int) (S : ByteArray) (VK : Int) (VN : Int) (VS : ByteArray) (left : Int) (w : World) (hs : S.size ≤ maxLen) (hv : VS.size ≤ maxLen) (h0 : 0 ≤ left) (h1 : left ≤ 1048576) :
    Calls Try.prog 123 #[.agg #[.int .i64 K, .string S, .int .i64 VK, .int .i64 VN, .string VS], .int .i64 left] w fun e w' =>
      (∃ r, e = .returned (.int .i64 r) ∧ (r = -1 ∨ (0 ≤ r ∧ r + (S.size : Int) + (VS.size : Int) ≤ left))) ∧ Below w.heap.size w w' := by
  have hs0 := hs
  unfold maxLen at hs
  by_cases h2 : left - (S.size : Int) < 0
  · go_enter Try.func123, Try.ntmps123
    go_wp2
    go_ret
    exact ⟨⟨-1, rfl, .inl rfl⟩, by go_grown⟩
  · go_enter Try.func123, Try.ntmps123
    go_wp2_with fail
    have b0 := below_al w (.cells #[.int .i64 K, .string S, .int .i64 VK, .int .i64 VN, .string VS] 142)
    refine (szVal_any VK VN VS (left - (S.size : Int)) _ hv (by omega) (by omega)).mono ?_
    rintro e w1 ⟨rfl, hb1⟩
    have hB1 : Below w.heap.size w w1 := b0.trans (hb1.mono b0.size)
    clear hb1 b0
    by_cases h3 : left - (S.size : Int) - (VS.size : Int) < 0
    · rw [if_pos h3]
      go_wp2
      go_ret
      exact ⟨⟨-1, rfl, .inl rfl⟩, hB1⟩
    · rw [if_neg h3]
      go_wp2
      go_ret
      exact ⟨⟨_, rfl, .inr ⟨by omega, by omega⟩⟩, hB1⟩

set_option maxRecDepth 100000 in
set_option maxHeartbeats 1600000 in
theorem eqArg_same (K : Int) (S : ByteArray) (VK : Int) (VN : Int) (VS : ByteArray) (w : World) :
    Calls Try.prog 136 #[.agg #[.int .i64 K, .string S, .int .i64 VK, .int .i64 VN, .string VS], .agg #[.int .i64 K, .string S, .int .i64 VK, .int .i64 VN, .string VS]] w fun e w' => e = .returned (.bool true) ∧ Below w.heap.size w w' := by
  have kK : (K != K) = false := by simp
  have kS : (S.toList == S.toList) = true := by simp
  go_enter Try.func136, Try.ntmps136
  go_wp2_with fail
  have b0 := below_al w (.cells #[.int .i64 K, .string S, .int .i64 VK, .int .i64 VN, .string VS] 157)
  have b1 := b0.alloc b0.size (.cells #[.int .i64 K, .string S, .int .i64 VK, .int .i64 VN, .string VS] 157)
  refine (eqVal_same VK VN VS _).mono ?_
  rintro e w1 ⟨rfl, hb⟩
  have hB : Below w.heap.size w w1 := b1.trans (hb.mono b1.size)
  go_wp2
  go_ret
  exact ⟨rfl, hB⟩

set_option maxRecDepth 100000 in
set_option maxHeartbeats 1600000 in
theorem toArgS_at (a : Option Addr) (cap : Nat) (L : List A5) (w : World) (hr : RdArg w a L) (hn : L.length ≤ 1048576) :
    Calls Try.prog 126 #[.slice a L.length cap] w fun e w' =>
      e = .returned (.slice (some ⟨w.heap.size, 0, none⟩) L.length L.length) ∧ w'.ownsRow w.heap.size 157 5 (.slice (some ⟨w.heap.size, 0, none⟩) L.length L.length) L.length (rowOf A5.cs L) ∧ Below w.heap.size w w' := by
  obtain ⟨i0, hi, hz0, hz1, hz2⟩ := info_parts Try.info157
  obtain ⟨n, hN⟩ : ∃ n, n = L.length := ⟨_, rfl⟩
  rw [← hN] at hn ⊢
  have HN := hide hN
  clear hN
  have hmade := rowOf_made (f := A5.cs) (x := A5.zero) (cs := #[.int .i64 0, .string ⟨#[]⟩, .int .i64 0, .int .i64 0, .string ⟨#[]⟩]) rfl (by decide) n
  go_enter Try.func126, Try.ntmps126
  go_wp2_with (at_make; refine wpList_make_full _ rfl _ _ 77 rfl w.heap.size 157 i0 (.agg #[.int .i64 0, .string ⟨#[]⟩, .int .i64 0, .int .i64 0, .string ⟨#[]⟩]) 5 Try.underlying77 hi hz0 hz1 _ _ _ _ n rfl rfl (by omega) (by omega) ?b2 ?b3 (Nat.le_refl _) ?_)
  case b2 => rw [hz2]; omega
  case b3 => unfold maxLen; omega
  intro w0 hown0 hgrow0
  have hown0' : w0.ownsRow w.heap.size 157 5 (.slice (some ⟨w.heap.size, 0, none⟩) n n) n (rowOf A5.cs (List.replicate n A5.zero)) := by rw [← hmade]; exact hown0
  clear hown0 hmade
  go_wp2
  go_loopw [4] (fun i wr => ∃ k : Nat, k ≤ n ∧ i = .int .i64 k ∧ wr.ownsRow w.heap.size 157 5 (.slice (some ⟨w.heap.size, 0, none⟩) n n) n (rowOf A5.cs (partK L A5.zero k)) ∧ Below w.heap.size w wr)
    (fun i _ => n - (intOf i).toNat)
  case atStart =>
    refine ⟨0, Nat.zero_le _, rfl, ?_, (Below.refl _ _).grown hgrow0 (Nat.le_refl _) (fun k h => by cases h)⟩
    rw [partK_zero, ← HN.out]
    exact hown0'
  case round =>
    obtain ⟨k, hk, rfl, hown, hbel⟩ := hrel
    by_cases hlt : k < n
    · obtain ⟨b, off, hab, hbw, hc⟩ := RdArg.cells hr (by rw [← HN.out]; omega)
      obtain ⟨c0, c1, c2, c3, c4⟩ := hc k (by rw [← HN.out]; exact hlt)
      clear hc
      subst hab
      rw [← hbel.cell (p := ⟨b, off + k * 5, none⟩) hbw] at c0
      rw [← hbel.cell (p := ⟨b, off + k * 5 + 1, none⟩) hbw] at c1
      rw [← hbel.cell (p := ⟨b, off + k * 5 + 2, none⟩) hbw] at c2
      rw [← hbel.cell (p := ⟨b, off + k * 5 + 3, none⟩) hbw] at c3
      rw [← hbel.cell (p := ⟨b, off + k * 5 + 4, none⟩) hbw] at c4
      go_wp2_with fail
      refine (toArg_any _ _ _ _ _ _).mono ?_
      rintro e w2 ⟨rfl, hb2⟩
      have hown2 : w2.ownsRow w.heap.size 157 5 (.slice (some ⟨w.heap.size, 0, none⟩) n n) n (rowOf A5.cs (partK L A5.zero k)) := ownsRow_below' hown hb2
      have hbel2 : Below w.heap.size w w2 := hbel.trans (hb2.mono hbel.size)
      have hlen : (rowOf A5.cs (partK L A5.zero k)).length = n * 5 := by rw [rowOf_length A5.len, partK_length (by rw [← HN.out]; omega), ← HN.out]
      have hmem : ∀ j, j < 5 → ∃ u, w2.cell? ⟨w.heap.size, k * 5 + j, none⟩ = some u := fun j hj => by
        rw [hown2.cellAt (k * 5 + j) (by omega), List.getElem?_eq_getElem (by omega)]
        exact ⟨_, rfl⟩
      obtain ⟨u0, m0⟩ := hmem 0 (by omega)
      obtain ⟨u1, m1⟩ := hmem 1 (by omega)
      obtain ⟨u2, m2⟩ := hmem 2 (by omega)
      obtain ⟨u3, m3⟩ := hmem 3 (by omega)
      obtain ⟨u4, m4⟩ := hmem 4 (by omega)
      rw [Nat.add_zero] at m0
      have f0 := hown2.frozenAt (k * 5)
      have f1 := hown2.frozenAt (k * 5 + 1)
      have f2 := hown2.frozenAt (k * 5 + 2)
      have f3 := hown2.frozenAt (k * 5 + 3)
      have f4 := hown2.frozenAt (k * 5 + 4)
      have HO := hide (((((hown2.stored (k * 5) (.int .i64 (eAt L k).K)).1.stored (k * 5 + 1) (.string (eAt L k).S)).1.stored (k * 5 + 2) (.int .i64 (eAt L k).V.K)).1.stored (k * 5 + 3) (.int .i64 (eAt L k).V.N)).1.stored (k * 5 + 4) (.string (eAt L k).V.S)).1
      have HB : Hid (Below w.heap.size w (((((w2.setCell ⟨w.heap.size, k * 5, none⟩ (.int .i64 (eAt L k).K)).setCell ⟨w.heap.size, k * 5 + 1, none⟩ (.string (eAt L k).S)).setCell ⟨w.heap.size, k * 5 + 2, none⟩ (.int .i64 (eAt L k).V.K)).setCell ⟨w.heap.size, k * 5 + 3, none⟩ (.int .i64 (eAt L k).V.N)).setCell ⟨w.heap.size, k * 5 + 4, none⟩ (.string (eAt L k).V.S))) := (((((hbel2.setCell (Nat.le_refl _) _).setCell (Nat.le_refl _) _).setCell (Nat.le_refl _) _).setCell (Nat.le_refl _) _).setCell (Nat.le_refl _) _)
      rw [rowOf_set_A5 (eAt L k) _ k (by rw [partK_length (by rw [← HN.out]; omega), ← HN.out]; exact hlt), partK_set (by rw [← HN.out]; exact hlt)] at HO
      clear hmem hlen c0 c1 c2 c3 c4 hown hbel hb2 hown2 hbel2
      go_wp2
      go_roundw
      case rel => exact ⟨k + 1, by omega, by go_num, HO.out, HB.out⟩
      case measure => simp [intOf]; omega
    · have HE : Hid (wr.ownsRow w.heap.size 157 5 (.slice (some ⟨w.heap.size, 0, none⟩) n n) n (rowOf A5.cs L)) := by
        have hkn : k = L.length := by rw [← HN.out]; omega
        rw [hkn, partK_end] at hown
        exact hown
      clear hown
      go_wp2
      go_ret
      exact ⟨rfl, HE.out, hbel⟩

set_option maxRecDepth 100000 in
set_option maxHeartbeats 1600000 in
theorem szArgS_any (a : Option Addr) (cap : Nat) (L : List A5) (left : Int) (w : World) (hr : RdArg w a L) (hs : ∀ x ∈ L, x.fits) (hm : L.length ≤ maxLen) (h0 : 0 ≤ left) (h1 : left ≤ 1048576) :
    Calls Try.prog 122 #[.slice a L.length cap, .int .i64 left] w fun e w' =>
      (∃ r, e = .returned (.int .i64 r) ∧ (r = -1 ∨ (0 ≤ r ∧ r + (L.length : Int) ≤ left ∧ ∀ x ∈ L, x.small))) ∧ Below w.heap.size w w' := by
  unfold maxLen at hm
  obtain ⟨n, hN⟩ : ∃ n, n = L.length := ⟨_, rfl⟩
  rw [← hN] at hm ⊢
  have HN := hide hN
  have HS := hide hs
  clear hN hs
  by_cases h2 : left - (n : Int) < 0
  · go_enter Try.func122, Try.ntmps122
    go_wp2
    go_ret
    exact ⟨⟨-1, rfl, .inl rfl⟩, Below.refl _ _⟩
  · go_enter Try.func122, Try.ntmps122
    go_wp2
    go_loopw [1, 5] (fun l i wr => ∃ (k : Nat) (lf : Int), k ≤ n ∧ i = .int .i64 k ∧ l = .int .i64 lf ∧ 0 ≤ lf ∧ lf ≤ left - n ∧ (∀ j, j < k → (eAt L j).small) ∧ Below w.heap.size w wr) (fun _ i _ => n - (intOf i).toNat)
    case atStart => exact ⟨0, left - n, Nat.zero_le _, rfl, rfl, by omega, Int.le_refl _, fun j hj => absurd hj (Nat.not_lt_zero _), Below.refl _ _⟩
    case round =>
      obtain ⟨k, lf, hk, rfl, rfl, hlf, hle, hsm, hbel⟩ := hrel
      have HSm := hide hsm
      clear hsm
      by_cases hlt : k < n
      · obtain ⟨b, off, hab, hbw, hc⟩ := RdArg.cells hr (by rw [← HN.out]; omega)
        obtain ⟨c0, c1, c2, c3, c4⟩ := hc k (by rw [← HN.out]; exact hlt)
        clear hc
        subst hab
        rw [← hbel.cell (p := ⟨b, off + k * 5, none⟩) hbw] at c0
        rw [← hbel.cell (p := ⟨b, off + k * 5 + 1, none⟩) hbw] at c1
        rw [← hbel.cell (p := ⟨b, off + k * 5 + 2, none⟩) hbw] at c2
        rw [← hbel.cell (p := ⟨b, off + k * 5 + 3, none⟩) hbw] at c3
        rw [← hbel.cell (p := ⟨b, off + k * 5 + 4, none⟩) hbw] at c4
        have hS : (eAt L k).fits := by rw [eAt_in (by rw [← HN.out]; exact hlt)]; exact HS.out _ (List.getElem_mem _)
        obtain ⟨hS0, hS1⟩ := hS
        go_wp2_with fail
        refine (szArg_any _ _ _ _ _ lf _ hS0 hS1 hlf (by omega)).mono ?_
        rintro e w2 ⟨⟨r, rfl, hr2⟩, hb2⟩
        have hbel2 : Below w.heap.size w w2 := hbel.trans (hb2.mono hbel.size)
        clear hb2 c0 c1 c2 c3 c4 hbel
        rcases hr2 with rfl | ⟨h3, h4⟩
        · go_wp2
          go_ret
          exact ⟨⟨-1, rfl, .inl rfl⟩, hbel2⟩
        · have HSk : Hid ((eAt L k).small) := ⟨by omega, by omega⟩
          have h5 : r ≤ lf := by omega
          clear h4
          go_wp2
          go_roundw
          case rel => exact ⟨k + 1, r, by omega, by go_num, rfl, h3, by omega, fun j hj => by
              by_cases hjk : j = k
              · rw [hjk]; exact HSk.out
              · exact HSm.out j (by omega), hbel2⟩
          case measure => simp [intOf]; omega
      · have HAll : Hid (∀ x ∈ L, x.small) := fun x hx => by
          obtain ⟨j, hj, rfl⟩ := List.getElem_of_mem hx
          rw [← eAt_in hj]
          exact HSm.out j (by rw [← HN.out] at hj; omega)
        go_wp2
        go_ret
        exact ⟨⟨lf, rfl, .inr ⟨hlf, by omega, HAll.out⟩⟩, hbel⟩

theorem toArgS_ex (a : Option Addr) (cap : Nat) (L : List A5) (w : World) (hr : RdArg w a L) (hn : L.length ≤ 1048576) :
    Calls Try.prog 126 #[.slice a L.length cap] w fun e w' =>
      ∃ g, e = .returned (.slice (some ⟨g, 0, none⟩) L.length L.length) ∧ w.heap.size ≤ g ∧ OwnArg w' g L.length L ∧ Below w.heap.size w w' :=
  (toArgS_at a cap L w hr hn).mono fun e w' h => ⟨w.heap.size, h.1, Nat.le_refl _, OwnK.of A5.len (by decide) h.2.1, h.2.2⟩

theorem keepArg {w0 W w' : World} {B : Nat} {p0 p1 p2 p3 p4 p5 p6 p7 p8 p9 : Addr} {v0 v1 v2 v3 v4 v5 v6 v7 v8 v9 : Value} (hb : Below W.heap.size W w')
    (h : W.cell? p0 = some v0 ∧ W.cell? p1 = some v1 ∧ W.cell? p2 = some v2 ∧ W.cell? p3 = some v3 ∧ W.cell? p4 = some v4 ∧ W.cell? p5 = some v5 ∧ W.cell? p6 = some v6 ∧ W.cell? p7 = some v7 ∧ W.cell? p8 = some v8 ∧ W.cell? p9 = some v9 ∧ Below B w0 W ∧ B ≤ W.heap.size) :
    w'.cell? p0 = some v0 ∧ w'.cell? p1 = some v1 ∧ w'.cell? p2 = some v2 ∧ w'.cell? p3 = some v3 ∧ w'.cell? p4 = some v4 ∧ w'.cell? p5 = some v5 ∧ w'.cell? p6 = some v6 ∧ w'.cell? p7 = some v7 ∧ w'.cell? p8 = some v8 ∧ w'.cell? p9 = some v9 ∧ Below B w0 w' ∧ B ≤ w'.heap.size := by
  obtain ⟨q0, q1, q2, q3, q4, q5, q6, q7, q8, q9, h6, h7⟩ := h
  have k : ∀ {a : Addr} {v : Value}, W.cell? a = some v → w'.cell? a = some v := fun {a v} h => by rw [hb.cell (World.block_lt_of_cell? W _ h)]; exact h
  exact ⟨k q0, k q1, k q2, k q3, k q4, k q5, k q6, k q7, k q8, k q9, h6.trans (hb.mono h7), Nat.le_trans h7 hb.size⟩
set_option maxRecDepth 100000 in
set_option maxHeartbeats 1600000 in
theorem eqArgS_same (a b : Option Addr) (ca cb : Nat) (L : List A5) (w : World) (hr : RdArg w a L) (hq : RdArg w b L) (hm : L.length ≤ 2097152) :
    Calls Try.prog 135 #[.slice a L.length ca, .slice b L.length cb] w fun e w' =>
      e = .returned (.bool true) ∧ Below w.heap.size w w' := by
  obtain ⟨n, hN⟩ : ∃ n, n = L.length := ⟨_, rfl⟩
  rw [← hN] at hm ⊢
  have HN := hide hN
  clear hN
  have hnn : ((n : Int) != (n : Int)) = false := by simp
  go_enter Try.func135, Try.ntmps135
  go_wp2
  go_loopw [5] (fun i wr => ∃ (k : Nat), k ≤ n ∧ i = .int .i64 k ∧ Below w.heap.size w wr) (fun i _ => n - (intOf i).toNat)
  case atStart => exact ⟨0, Nat.zero_le _, rfl, Below.refl _ _⟩
  case round =>
    obtain ⟨k, hk, rfl, hbel⟩ := hrel
    by_cases hlt : k < n
    · obtain ⟨b1, o1, e1, hbw1, hc1⟩ := RdArg.cells hr (by rw [← HN.out]; omega)
      obtain ⟨b2, o2, e2, hbw2, hc2⟩ := RdArg.cells hq (by rw [← HN.out]; omega)
      obtain ⟨c0, c1, c2, c3, c4⟩ := hc1 k (by rw [← HN.out]; exact hlt)
      obtain ⟨d0, d1, d2, d3, d4⟩ := hc2 k (by rw [← HN.out]; exact hlt)
      clear hc1 hc2
      subst e1 e2
      rw [← hbel.cell (p := ⟨b1, o1 + k * 5, none⟩) hbw1] at c0
      rw [← hbel.cell (p := ⟨b2, o2 + k * 5, none⟩) hbw2] at d0
      rw [← hbel.cell (p := ⟨b1, o1 + k * 5 + 1, none⟩) hbw1] at c1
      rw [← hbel.cell (p := ⟨b2, o2 + k * 5 + 1, none⟩) hbw2] at d1
      rw [← hbel.cell (p := ⟨b1, o1 + k * 5 + 2, none⟩) hbw1] at c2
      rw [← hbel.cell (p := ⟨b2, o2 + k * 5 + 2, none⟩) hbw2] at d2
      rw [← hbel.cell (p := ⟨b1, o1 + k * 5 + 3, none⟩) hbw1] at c3
      rw [← hbel.cell (p := ⟨b2, o2 + k * 5 + 3, none⟩) hbw2] at d3
      rw [← hbel.cell (p := ⟨b1, o1 + k * 5 + 4, none⟩) hbw1] at c4
      rw [← hbel.cell (p := ⟨b2, o2 + k * 5 + 4, none⟩) hbw2] at d4
      generalize (eAt L k).K = K at c0 d0
      generalize (eAt L k).S = S at c1 d1
      generalize (eAt L k).V.K = VK at c2 d2
      generalize (eAt L k).V.N = VN at c3 d3
      generalize (eAt L k).V.S = VS at c4 d4
      go_wp2_with fail
      go_region_held3 (fun W => W.cell? ⟨b1, o1 + k * 5, none⟩ = some (.int .i64 K) ∧ W.cell? ⟨b1, o1 + k * 5 + 1, none⟩ = some (.string S) ∧ W.cell? ⟨b1, o1 + k * 5 + 2, none⟩ = some (.int .i64 VK) ∧ W.cell? ⟨b1, o1 + k * 5 + 3, none⟩ = some (.int .i64 VN) ∧ W.cell? ⟨b1, o1 + k * 5 + 4, none⟩ = some (.string VS) ∧ W.cell? ⟨b2, o2 + k * 5, none⟩ = some (.int .i64 K) ∧ W.cell? ⟨b2, o2 + k * 5 + 1, none⟩ = some (.string S) ∧ W.cell? ⟨b2, o2 + k * 5 + 2, none⟩ = some (.int .i64 VK) ∧ W.cell? ⟨b2, o2 + k * 5 + 3, none⟩ = some (.int .i64 VN) ∧ W.cell? ⟨b2, o2 + k * 5 + 4, none⟩ = some (.string VS) ∧ Below w.heap.size w W ∧ w.heap.size ≤ W.heap.size) (first | exact ⟨c0, c1, c2, c3, c4, d0, d1, d2, d3, d4, hbel.drew, hbel.size⟩ | exact keepArg (by assumption) (by assumption))
        (first | (go_at_call 136; refine (eqArg_same _ _ _ _ _ _).mono ?_; rintro e w2 ⟨rfl, hb⟩))
      all_goals
        obtain ⟨-, -, -, -, -, -, -, -, -, -, hB2, -⟩ : w2.cell? ⟨b1, o1 + k * 5, none⟩ = some (.int .i64 K) ∧ w2.cell? ⟨b1, o1 + k * 5 + 1, none⟩ = some (.string S) ∧ w2.cell? ⟨b1, o1 + k * 5 + 2, none⟩ = some (.int .i64 VK) ∧ w2.cell? ⟨b1, o1 + k * 5 + 3, none⟩ = some (.int .i64 VN) ∧ w2.cell? ⟨b1, o1 + k * 5 + 4, none⟩ = some (.string VS) ∧ w2.cell? ⟨b2, o2 + k * 5, none⟩ = some (.int .i64 K) ∧ w2.cell? ⟨b2, o2 + k * 5 + 1, none⟩ = some (.string S) ∧ w2.cell? ⟨b2, o2 + k * 5 + 2, none⟩ = some (.int .i64 VK) ∧ w2.cell? ⟨b2, o2 + k * 5 + 3, none⟩ = some (.int .i64 VN) ∧ w2.cell? ⟨b2, o2 + k * 5 + 4, none⟩ = some (.string VS) ∧ Below w.heap.size w w2 ∧ w.heap.size ≤ w2.heap.size := by assumption
        go_wp2
        go_roundw
        case rel => exact ⟨k + 1, by omega, by go_num, hB2⟩
        case measure => simp [intOf]; omega
    · go_wp2
      go_ret
      exact ⟨rfl, hbel⟩
end Go.Proofs.Ytfgigcdfmkfkjaa
/-
  The contracts of the draws of arguments: some, whatever they are, with short texts.
-/
namespace Go.Proofs.Ytfgigcdfmkfkjaa
open Go.RowKit
set_option linter.unusedVariables false

theorem box3_set1 {w : World} {q : Nat} {c0 c1 c2 : Value} {T : TypeId} (h : w.heap[q]? = some (.cells #[c0, c1, c2] T (0, 0))) (u : Value) :
    (w.setCell ⟨q, 1, none⟩ u).heap[q]? = some (.cells #[c0, u, c2] T (0, 0)) ∧ w.grownBy (w.setCell ⟨q, 1, none⟩ u) (some q) := boxk_set h 1 u
theorem src5 (W : World) (x : A5) : ∀ j u, (x.cs)[j]? = some u → (W.alloc (.cells #[.int .i64 x.K, .string x.S, .int .i64 x.V.K, .int .i64 x.V.N, .string x.V.S] 157)).cell? ((⟨W.heap.size, 0, none⟩ : Addr).add j) = some u := by
  intro j u hj
  rw [Addr.add_lit, Nat.zero_add]
  have hb : (W.alloc (.cells #[.int .i64 x.K, .string x.S, .int .i64 x.V.K, .int .i64 x.V.N, .string x.V.S] 157)).heap[W.heap.size]? = some (.cells #[.int .i64 x.K, .string x.S, .int .i64 x.V.K, .int .i64 x.V.N, .string x.V.S] 157 (0, 0)) := by rw [heap_alloc_new]
  rw [cell_of_row _ _ j _ _ (0, 0) hb, ← hj]
  simp [A5.cs]
theorem one5 (x : A5) : ∀ u ∈ x.cs, u.oneCell' = true := by
  intro u hu
  simp only [A5.cs, List.mem_cons, List.not_mem_nil, or_false] at hu
  rcases hu with rfl | rfl | rfl | rfl | rfl <;> rfl
theorem below_grown {w w' : World} {q : Nat} (h : Below w.heap.size w w') : w.grownBy w' (some q) := ⟨h.os, h.tape, h.output, h.size, fun i hi _ => h.block i hi⟩

set_option maxRecDepth 100000 in
set_option maxHeartbeats 800000 in
theorem l6Var_any (s : ByteArray) (w : World) :
    Calls Try.prog 162 #[.string s] w fun e w' => e = .returned (.agg #[.int .i64 1, .string s, .int .i64 0, .int .i64 0, .string ⟨#[]⟩]) ∧ Below w.heap.size w w' := by
  go_enter Try.func162, Try.ntmps162
  go_wp2
  go_returns
  exact ⟨rfl, by go_grown⟩
set_option maxRecDepth 100000 in
set_option maxHeartbeats 800000 in
theorem l6Val_any (v : V3) (w : World) :
    Calls Try.prog 161 #[.agg #[.int .i64 v.K, .int .i64 v.N, .string v.S]] w fun e w' => e = .returned (.agg #[.int .i64 2, .string ⟨#[]⟩, .int .i64 v.K, .int .i64 v.N, .string v.S]) ∧ Below w.heap.size w w' := by
  go_enter Try.func161, Try.ntmps161
  go_wp2
  go_returns
  exact ⟨rfl, by go_grown⟩

/-- some argument was drawn -/
def DrawnA (w : World) (B q : Nat) (e : Ending) (w' : World) : Prop := ∃ x : A5, e = .returned (.agg #[.int .i64 x.K, .string x.S, .int .i64 x.V.K, .int .i64 x.V.N, .string x.V.S]) ∧ x.small ∧ Cur B w' q ∧ w.grownBy w' (some q)
theorem emp_small : (⟨#[]⟩ : ByteArray).size ≤ 1048576 := by decide

set_option maxRecDepth 100000 in
set_option maxHeartbeats 1600000 in
theorem l6Arg_any (B q : Nat) (w : World) (hc : Cur B w q) :
    Calls Try.prog 158 #[.pointer (some ⟨q, 0, none⟩)] w (DrawnA w B q) := by
  have hq := hc.lt
  have hB := hc.1
  go_enter Try.func158, Try.ntmps158
  go_wp2_with fail
  have c0 : Cur B (w.alloc (.cells #[.int .i64 0, .string ⟨#[]⟩, .int .i64 0, .int .i64 0, .string ⟨#[]⟩] 157)) q := hc.keep (World.grownBy_alloc w _ none) (by simp) (by simp)
  have hR := boxk_new w #[.int .i64 0, .string ⟨#[]⟩, .int .i64 0, .int .i64 0, .string ⟨#[]⟩] 157
  have G0 := grown_alloc w (.cells #[.int .i64 0, .string ⟨#[]⟩, .int .i64 0, .int .i64 0, .string ⟨#[]⟩] 157) q
  refine (l1Below_any B q 6 _ c0 (by omega) (by omega)).mono ?_
  rintro e w1 ⟨x, rfl, x0, x1, c1, g1⟩
  have HR := hide (box_grown hR g1 (by omega))
  have G1 : w.grownBy w1 (some q) := grown_trans G0 g1
  have z1 := G1.size
  have l1 := (Array.getElem?_eq_some_iff.1 HR.out).1
  clear g1 hR G0 c0
  by_cases h0 : x = 0
  · subst h0
    have r0 := boxk_cell HR.out 0 _ rfl
    have r1 := boxk_cell HR.out 1 _ rfl
    have r2 := boxk_cell HR.out 2 _ rfl
    have r3 := boxk_cell HR.out 3 _ rfl
    have r4 := boxk_cell HR.out 4 _ rfl
    have f0 := boxk_frozen HR.out 0
    have f1 := boxk_frozen HR.out 1
    have f2 := boxk_frozen HR.out 2
    have f3 := boxk_frozen HR.out 3
    have f4 := boxk_frozen HR.out 4
    go_wp2
    refine box5_post HR.out (fun w3 h3 gr => ?_)
    clear r0 r1 r2 r3 r4 f0 f1 f2 f3 f4
    have a0 := boxk_cell h3 0 _ rfl
    have a1 := boxk_cell h3 1 _ rfl
    have a2 := boxk_cell h3 2 _ rfl
    have a3 := boxk_cell h3 3 _ rfl
    have a4 := boxk_cell h3 4 _ rfl
    refine bodyPost_ret (v := .agg #[.int .i64 3, .string ⟨#[]⟩, .int .i64 0, .int .i64 0, .string ⟨#[]⟩]) (by simp [results, Try.results158, go_sem, a0, a1, a2, a3, a4]) rfl ⟨⟨3, ⟨#[]⟩, ⟨0, 0, ⟨#[]⟩⟩⟩, rfl, ⟨emp_small, emp_small⟩, c1.keep gr (by simp; omega) (by intro k hk; cases hk; omega), grown_more G1 gr (by intro k hk; cases hk; omega)⟩
  · have k0 : (x == 0) = false := by simpa using h0
    by_cases h1 : x = 1
    · subst h1
      clear h0 k0
      go_wp2_with fail
      refine (l3Small_any B q _ c1).mono ?_
      rintro e w2 ⟨v, rfl, hv, c2, g2⟩
      have HR2 := hide (box_grown HR.out g2 (by omega))
      have G2 : w.grownBy w2 (some q) := grown_trans G1 g2
      clear g2 HR c1 G1
      go_wp2_with fail
      refine (l6Val_any v _).mono ?_
      rintro e w3 ⟨rfl, hb3⟩
      have HR3 := hide (box_step HR2.out hb3)
      have G3 : w.grownBy w3 (some q) := grown_trans G2 (below_grown hb3)
      have c3 : Cur B w3 q := c2.keep (⟨hb3.os, hb3.tape, hb3.output, hb3.size, fun i hi _ => hb3.block i hi⟩ : w2.grownBy w3 none) (by simp) (by simp)
      clear hb3 HR2 c2 G2
      have r0 := boxk_cell HR3.out 0 _ rfl
      have r1 := boxk_cell HR3.out 1 _ rfl
      have r2 := boxk_cell HR3.out 2 _ rfl
      have r3 := boxk_cell HR3.out 3 _ rfl
      have r4 := boxk_cell HR3.out 4 _ rfl
      have f0 := boxk_frozen HR3.out 0
      have f1 := boxk_frozen HR3.out 1
      have f2 := boxk_frozen HR3.out 2
      have f3 := boxk_frozen HR3.out 3
      have f4 := boxk_frozen HR3.out 4
      go_wp2
      refine box5_post HR3.out (fun w4 h4 gr => ?_)
      clear r0 r1 r2 r3 r4 f0 f1 f2 f3 f4
      have a0 := boxk_cell h4 0 _ rfl
      have a1 := boxk_cell h4 1 _ rfl
      have a2 := boxk_cell h4 2 _ rfl
      have a3 := boxk_cell h4 3 _ rfl
      have a4 := boxk_cell h4 4 _ rfl
      refine bodyPost_ret (v := .agg #[.int .i64 2, .string ⟨#[]⟩, .int .i64 v.K, .int .i64 v.N, .string v.S]) (by simp [results, Try.results158, go_sem, a0, a1, a2, a3, a4]) rfl ⟨⟨2, ⟨#[]⟩, v⟩, rfl, ⟨emp_small, by show v.S.size ≤ 1048576; omega⟩, c3.keep gr (by simp; omega) (by intro k hk; cases hk; omega), grown_more G3 gr (by intro k hk; cases hk; omega)⟩
    · have k1 : (x == 1) = false := by simpa using h1
      clear h0 h1
      go_wp2_with fail
      refine (l1Str_any B q w1.heap.size [⟨#[88]⟩, ⟨#[89]⟩, ⟨#[90]⟩, ⟨#[88]⟩] 4 _ (c1.keep (World.grownBy_alloc w1 _ none) (by simp) (by simp)) (by decide) (by decide) (by omega) (cells_strs w1 9 _)).mono ?_
      rintro e w2 ⟨s, rfl, hx, c2, g2⟩
      have HS : Hid (s.size ≤ 1048576) := by
        unfold Hid
        simp only [List.mem_cons, List.not_mem_nil, or_false] at hx
        rcases hx with rfl | rfl | rfl | rfl <;> decide
      have HR2 := hide (box_grown (box_alloc HR.out _) g2 (by omega))
      have G2 : w.grownBy w2 (some q) := grown_trans (grown_trans G1 (grown_alloc w1 _ q)) g2
      clear hx g2 HR c1 G1
      go_wp2_with fail
      refine (l6Var_any s _).mono ?_
      rintro e w3 ⟨rfl, hb3⟩
      have HR3 := hide (box_step HR2.out hb3)
      have G3 : w.grownBy w3 (some q) := grown_trans G2 (below_grown hb3)
      have c3 : Cur B w3 q := c2.keep (⟨hb3.os, hb3.tape, hb3.output, hb3.size, fun i hi _ => hb3.block i hi⟩ : w2.grownBy w3 none) (by simp) (by simp)
      clear hb3 HR2 c2 G2
      have r0 := boxk_cell HR3.out 0 _ rfl
      have r1 := boxk_cell HR3.out 1 _ rfl
      have r2 := boxk_cell HR3.out 2 _ rfl
      have r3 := boxk_cell HR3.out 3 _ rfl
      have r4 := boxk_cell HR3.out 4 _ rfl
      have f0 := boxk_frozen HR3.out 0
      have f1 := boxk_frozen HR3.out 1
      have f2 := boxk_frozen HR3.out 2
      have f3 := boxk_frozen HR3.out 3
      have f4 := boxk_frozen HR3.out 4
      go_wp2
      refine box5_post HR3.out (fun w4 h4 gr => ?_)
      clear r0 r1 r2 r3 r4 f0 f1 f2 f3 f4
      have a0 := boxk_cell h4 0 _ rfl
      have a1 := boxk_cell h4 1 _ rfl
      have a2 := boxk_cell h4 2 _ rfl
      have a3 := boxk_cell h4 3 _ rfl
      have a4 := boxk_cell h4 4 _ rfl
      refine bodyPost_ret (v := .agg #[.int .i64 1, .string s, .int .i64 0, .int .i64 0, .string ⟨#[]⟩]) (by simp [results, Try.results158, go_sem, a0, a1, a2, a3, a4]) rfl ⟨⟨1, s, ⟨0, 0, ⟨#[]⟩⟩⟩, rfl, ⟨HS.out, emp_small⟩, c3.keep gr (by simp; omega) (by intro k hk; cases hk; omega), grown_more G3 gr (by intro k hk; cases hk; omega)⟩
end Go.Proofs.Ytfgigcdfmkfkjaa
/-
  The contracts of the laws' own helpers on patterns: toPat copies, szPat counts off, eqPat finds a pattern the same as itself.
-/
namespace Go.Proofs.Ytfgigcdfmkfkjaa
open Go.RowKit
set_option linter.unusedVariables false

set_option maxRecDepth 100000 in
set_option maxHeartbeats 1600000 in
theorem toPat_any (kd : ByteArray) (a : Option Addr) (cap : Nat) (L : List A5) (nt : Bool) (w : World) (hr : RdArg w a L) (hn : L.length ≤ 1048576) :
    Calls Try.prog 94 #[.agg #[.string kd, .slice a L.length cap, .bool nt]] w fun e w' =>
      ∃ g, e = .returned (.agg #[.string kd, .slice (some ⟨g, 0, none⟩) L.length L.length, .bool nt]) ∧ w.heap.size ≤ g ∧ OwnArg w' g L.length L ∧ Below w.heap.size w w' := by
  go_enter Try.func94, Try.ntmps94
  go_wp2_with fail
  have b0 := below_al w (.cells #[.string kd, .slice a L.length cap, .bool nt] 139)
  have b1 := b0.alloc b0.size (.cells #[.string ⟨#[]⟩, .slice none 0 0, .bool false] 79)
  have b2 := b1.alloc b1.size (.cells #[.string kd, .slice none 0 0, .bool false] 79)
  have hP := box_old (box_old (boxk_new w #[.string kd, .slice a L.length cap, .bool nt] 139) (by simp) (.cells #[.string ⟨#[]⟩, .slice none 0 0, .bool false] 79)) (by simp; omega) (.cells #[.string kd, .slice none 0 0, .bool false] 79)
  have hR := box_old (boxk_new (w.alloc (.cells #[.string kd, .slice a L.length cap, .bool nt] 139)) #[.string ⟨#[]⟩, .slice none 0 0, .bool false] 79) (by simp) (.cells #[.string kd, .slice none 0 0, .bool false] 79)
  have hX := boxk_new ((w.alloc (.cells #[.string kd, .slice a L.length cap, .bool nt] 139)).alloc (.cells #[.string ⟨#[]⟩, .slice none 0 0, .bool false] 79)) #[.string kd, .slice none 0 0, .bool false] 79
  simp only [World.size_alloc] at hR hX
  refine (toArgS_at a cap L _ (hr.below b2) hn).mono ?_
  rintro e w1 ⟨rfl, ho, hb⟩
  have HP := hide (box_below hP hb (by simp; omega))
  have HR := hide (box_below hR hb (by simp))
  have HX := hide (box_below hX hb (by simp))
  have hB : Below w.heap.size w w1 := b2.trans (hb.mono b2.size)
  have hO : OwnArg w1 _ _ L := OwnK.of A5.len (by decide) ho
  clear ho hb hR hX hP b0 b1 b2
  simp only [World.size_alloc] at hO ⊢
  have p2 := boxk_cell HP.out 2 _ rfl
  have x0 := boxk_cell HX.out 0 _ rfl
  have x1 := boxk_cell HX.out 1 _ rfl
  have x2 := boxk_cell HX.out 2 _ rfl
  have xf1 := boxk_frozen HX.out 1
  have xf2 := boxk_frozen HX.out 2
  obtain ⟨r0, r1, r2, rf0, rf1, rf2⟩ := box_cell HR.out
  have HX2 := hide (boxk_set HX.out 1 (.slice (some ⟨w.heap.size + 1 + 1 + 1, 0, none⟩) L.length L.length))
  have HX3 := hide (boxk_set HX2.out.1 2 (.bool nt))
  have HR2 := hide (box_gr (box_gr HR.out HX2.out.2 (by omega)) HX3.out.2 (by omega))
  have HB2 := hide (below_set (below_set hB HX2.out.2 (by omega)) HX3.out.2 (by omega))
  have hz := hO.lt
  have HO2 := hide ((hO.grown HX2.out.2 (by omega)).grown HX3.out.2 (by omega))
  clear hO hB
  go_wp2
  refine box_post HR2.out (fun w4 h4 gr => ?_)
  clear x0 x1 x2 xf1 xf2 r0 r1 r2 rf0 rf1 rf2 p2
  obtain ⟨c0, c1, c2, -, -, -⟩ := box_cell h4
  exact bodyPost_ret (v := .agg #[.string kd, .slice (some ⟨w.heap.size + 1 + 1 + 1, 0, none⟩) L.length L.length, .bool nt]) (by simp [results, Try.results94, go_sem, c0, c1, c2]) rfl
    ⟨_, rfl, by omega, HO2.out.grown gr (by omega), below_set HB2.out gr (by omega)⟩

set_option maxRecDepth 100000 in
set_option maxHeartbeats 1600000 in
theorem szPat_any (kd : ByteArray) (a : Option Addr) (cap : Nat) (L : List A5) (nt : Bool) (left : Int) (w : World) (hkd : kd.size ≤ maxLen) (hr : RdArg w a L) (hs : ∀ x ∈ L, x.fits) (hm : L.length ≤ maxLen) (h0 : 0 ≤ left) (h1 : left ≤ 1048576) :
    Calls Try.prog 88 #[.agg #[.string kd, .slice a L.length cap, .bool nt], .int .i64 left] w fun e w' =>
      (∃ r, e = .returned (.int .i64 r) ∧ (r = -1 ∨ (0 ≤ r ∧ r + (kd.size : Int) + (L.length : Int) ≤ left ∧ ∀ x ∈ L, x.small))) ∧ Below w.heap.size w w' := by
  unfold maxLen at hkd
  by_cases h2 : left - (kd.size : Int) < 0
  · go_enter Try.func88, Try.ntmps88
    go_wp2
    go_ret
    exact ⟨⟨-1, rfl, .inl rfl⟩, by go_grown⟩
  · go_enter Try.func88, Try.ntmps88
    go_wp2_with fail
    have b0 := below_al w (.cells #[.string kd, .slice a L.length cap, .bool nt] 139)
    refine (szArgS_any a cap L (left - kd.size) _ (hr.below b0) hs hm (by omega) (by omega)).mono ?_
    rintro e w1 ⟨⟨r, rfl, hr1⟩, hb1⟩
    have hB1 : Below w.heap.size w w1 := b0.trans (hb1.mono b0.size)
    clear hb1
    rcases hr1 with rfl | ⟨hr2, hr3, hsm⟩
    · go_wp2
      go_ret
      exact ⟨⟨-1, rfl, .inl rfl⟩, hB1⟩
    · have HSm := hide hsm
      clear hsm
      go_wp2
      go_ret
      exact ⟨⟨r, rfl, .inr ⟨hr2, by omega, HSm.out⟩⟩, hB1⟩

set_option maxRecDepth 100000 in
set_option maxHeartbeats 1600000 in
theorem eqPat_same (kd : ByteArray) (a b : Option Addr) (ca cb : Nat) (L : List A5) (nt : Bool) (w : World) (hr : RdArg w a L) (hq : RdArg w b L) (hn : L.length ≤ 1048580) :
    Calls Try.prog 104 #[.agg #[.string kd, .slice a L.length ca, .bool nt], .agg #[.string kd, .slice b L.length cb, .bool nt]] w fun e w' =>
      e = .returned (.bool true) ∧ Below w.heap.size w w' := by
  have k1 : (kd.toList == kd.toList) = true := by simp
  have k2 : (nt != nt) = false := by simp
  go_enter Try.func104, Try.ntmps104
  go_wp2_with fail
  have b0 := below_al w (.cells #[.string kd, .slice a L.length ca, .bool nt] 79)
  have b1 := b0.alloc b0.size (.cells #[.string kd, .slice b L.length cb, .bool nt] 79)
  have hP := box_old (boxk_new w #[.string kd, .slice a L.length ca, .bool nt] 79) (by simp) (.cells #[.string kd, .slice b L.length cb, .bool nt] 79)
  have hQ := boxk_new (w.alloc (.cells #[.string kd, .slice a L.length ca, .bool nt] 79)) #[.string kd, .slice b L.length cb, .bool nt] 79
  simp only [World.size_alloc] at hQ
  refine (eqArgS_same a b ca cb L _ (hr.below b1) (hq.below b1) (by omega)).mono ?_
  rintro e w1 ⟨rfl, hb⟩
  have hB : Below w.heap.size w w1 := b1.trans (hb.mono b1.size)
  have p2 := boxk_cell (box_below hP hb (by simp; omega)) 2 _ rfl
  have q2 := boxk_cell (box_below hQ hb (by simp)) 2 _ rfl
  clear hP hQ hb
  go_wp2
  go_ret
  exact ⟨rfl, hB⟩
end Go.Proofs.Ytfgigcdfmkfkjaa
/-
  The contracts of the draws of patterns: some, whatever they are, with short texts.
-/
namespace Go.Proofs.Ytfgigcdfmkfkjaa
open Go.RowKit
set_option linter.unusedVariables false

/-- a pattern being drawn: its block F, its row of arguments -/
structure DrwP (w0 : World) (B q F : Nat) (kd : ByteArray) (nt : Bool) (v : Value) (L : List A5) (W : World) : Prop where
  cur : Cur B W q
  box : W.heap[F]? = some (.cells #[.string kd, v, .bool nt] 79 (0, 0))
  row : W.ownsRow (F + 1) 157 5 v L.length (rowOf A5.cs L)
  gr : w0.grownBy W (some q)
  far : q < w0.heap.size ∧ w0.heap.size < F
  res : W.heap[w0.heap.size]? = some (.cells #[.string ⟨#[]⟩, .slice none 0 0, .bool false] 79 (0, 0))
  small : ∀ v ∈ L, v.small
theorem DrwP.lt {w0 W : World} {B q F : Nat} {kd : ByteArray} {nt : Bool} {v : Value} {L : List A5} (h : DrwP w0 B q F kd nt v L W) : F < W.heap.size := (Array.getElem?_eq_some_iff.1 h.box).1
theorem own_neP {W : World} {F q : Nat} {v : Value} {n : Nat} {xs : List Value} (h : W.ownsRow (F + 1) 157 5 v n xs) (hq : q ≤ F) : v.ownBlock = none ∨ v.ownBlock ≠ some q := by
  cases hv2 : v.ownBlock with
  | none => exact .inl rfl
  | some g => right; intro e; have := (h.lt g hv2).1; cases e; omega
theorem DrwP.drew {w0 W : World} {B q F : Nat} {kd : ByteArray} {nt : Bool} {v : Value} {L : List A5} (h : DrwP w0 B q F kd nt v L W) : DrwP w0 B q F kd nt v L W.drew :=
  ⟨h.cur, h.box, h.row, ⟨h.gr.os, h.gr.tape, h.gr.output, h.gr.size, h.gr.block⟩, h.far, h.res, h.small⟩
theorem DrwP.draws {w0 W W' : World} {B q F : Nat} {kd : ByteArray} {nt : Bool} {v : Value} {L : List A5} (h : DrwP w0 B q F kd nt v L W) (c : Cur B W' q) (g : W.grownBy W' (some q)) : DrwP w0 B q F kd nt v L W' :=
  ⟨c, box_grown h.box g (by have := h.far; omega), h.row.kept g (own_neP h.row (by have := h.far; omega)), grown_trans h.gr g, h.far, box_grown h.res g (by have := h.far; omega), h.small⟩
theorem DrwP.alloc {w0 W : World} {B q F : Nat} {kd : ByteArray} {nt : Bool} {v : Value} {L : List A5} (h : DrwP w0 B q F kd nt v L W) (o : Obj) : DrwP w0 B q F kd nt v L (W.alloc o) :=
  ⟨h.cur.keep (World.grownBy_alloc W o none) (by simp) (by simp), box_alloc h.box o, h.row.alloc o, grown_trans h.gr (grown_alloc W o q), h.far, box_alloc h.res o, h.small⟩

/-- an argument appended, and the row stored into the pattern -/
theorem DrwP.grew {w0 W W' : World} {B q F g cap : Nat} {kd : ByteArray} {nt : Bool} {v : Value} {L : List A5} {u : A5} (h : DrwP w0 B q F kd nt v L W) (hu : u.small)
    (ho : W'.ownsRow (F + 1) 157 5 (.slice (some ⟨g, 0, none⟩) (L.length + 1) cap) (L.length + 1) (rowOf A5.cs L ++ u.cs)) (hg : W.grownBy W' v.ownBlock) :
    W'.cell? ⟨F, 1, none⟩ = some v ∧ W'.frozen? ⟨F, 1, none⟩ = false ∧ DrwP w0 B q F kd nt (.slice (some ⟨g, 0, none⟩) (L.length + 1) cap) (L ++ [u]) (W'.setCell ⟨F, 1, none⟩ (.slice (some ⟨g, 0, none⟩) (L.length + 1) cap)) := by
  have hF := h.lt
  have hne : v.ownBlock ≠ some F := by
    intro e
    have := (h.row.lt F e).1; omega
  have hb : W'.heap[F]? = some (.cells #[.string kd, v, .bool nt] 79 (0, 0)) := by rw [hg.block F hF (fun e => hne e.symm)]; exact h.box
  obtain ⟨-, c1, -, -, f1, -⟩ := box_cell hb
  obtain ⟨hb2, gr2⟩ := box3_set1 hb (.slice (some ⟨g, 0, none⟩) (L.length + 1) cap)
  have hne2 : v.ownBlock ≠ some q := by
    intro e
    have := (h.row.lt q e).1
    have := h.far; omega
  have hgF : F + 1 ≤ g := (ho.lt g rfl).1
  have hne3 : v.ownBlock ≠ some w0.heap.size := by
    intro e
    have := (h.row.lt w0.heap.size e).1
    have := h.far; omega
  have hres : W'.heap[w0.heap.size]? = some (.cells #[.string ⟨#[]⟩, .slice none 0 0, .bool false] 79 (0, 0)) := by rw [hg.block _ (Array.getElem?_eq_some_iff.1 h.res).1 (fun e => hne3 e.symm)]; exact h.res
  refine ⟨c1, f1, ?_, hb2, ?_, ?_, h.far, box_grown hres gr2 (by have := h.far; omega), ?_⟩
  · refine (h.cur.keep hg (fun e => hne2 e) (fun k hk => ?_)).keep gr2 (by have := h.far; simp; omega) (fun k hk => by cases hk; have := h.far; have := h.cur.1; omega)
    have := (h.row.lt k hk).1
    have := h.far; have := h.cur.1; omega
  · have := ho.kept gr2 (.inr (by simp [Value.ownBlock]; omega))
    rw [show rowOf A5.cs L ++ u.cs = rowOf A5.cs (L ++ [u]) by rw [rowOf_append]; simp [rowOf]] at this
    rw [List.length_append]
    exact this
  · refine grown_more (grown_more h.gr hg (fun k hk => ?_)) gr2 (fun k hk => by cases hk; have := h.far; omega)
    have := (h.row.lt k hk).1
    have := h.far; omega
  · intro x hx
    rcases List.mem_append.1 hx with hx | hx
    · exact h.small x hx
    · simp only [List.mem_cons, List.not_mem_nil, or_false] at hx
      rw [hx]; exact hu

/-- some pattern was drawn -/
def DrawnP (w : World) (B q : Nat) (nt : Bool) (e : Ending) (w' : World) : Prop := ∃ (kd : ByteArray) (v : Value) (L : List A5), e = .returned (.agg #[.string kd, v, .bool nt]) ∧ L.length ≤ 2 ∧ kd.size ≤ 21 ∧ (∀ x ∈ L, x.small) ∧ w'.ownsRow w.heap.size 157 5 v L.length (rowOf A5.cs L) ∧ Cur B w' q ∧ w.grownBy w' (some q)

set_option maxRecDepth 100000 in
set_option maxHeartbeats 3200000 in
theorem l6Draw_any (B q : Nat) (nt : Bool) (w : World) (hc : Cur B w q) :
    Calls Try.prog 141 #[.pointer (some ⟨q, 0, none⟩), .bool nt] w (DrawnP w B q nt) := by
  obtain ⟨i0, hi, hz0, hz1, hz2⟩ := info_parts Try.info157
  have hq := hc.lt
  have hB := hc.1
  go_enter Try.func141, Try.ntmps141
  go_wp2_with fail
  have G0 := grown_alloc w (.cells #[.string ⟨#[]⟩, .slice none 0 0, .bool false] 79) q
  have HR0 := hide (boxk_new w #[.string ⟨#[]⟩, .slice none 0 0, .bool false] 79)
  have c0 : Cur B (w.alloc (.cells #[.string ⟨#[]⟩, .slice none 0 0, .bool false] 79)) q := hc.keep (World.grownBy_alloc w _ none) (by simp) (by simp)
  have z0 : (w.alloc (.cells #[.string ⟨#[]⟩, .slice none 0 0, .bool false] 79)).heap.size = w.heap.size + 1 := by simp
  generalize w.alloc (.cells #[.string ⟨#[]⟩, .slice none 0 0, .bool false] 79) = w0 at G0 HR0 c0 z0 ⊢
  have l1 : w.heap.size < w0.heap.size := by omega
  rw [← z0]
  refine (l1Str_any B q w0.heap.size [⟨#[111, 114, 100, 101, 114]⟩, ⟨#[112, 97, 105, 100]⟩, ⟨#[105, 116, 101, 109]⟩, ⟨#[111, 114, 100, 101, 114]⟩] 4 _ (c0.keep (World.grownBy_alloc w0 _ none) (by simp) (by simp)) (by decide) (by decide) (by omega) (cells_strs w0 9 _)).mono ?_
  rintro e w1 ⟨kd, rfl, hx, c1, g1⟩
  have G1 : w.grownBy w1 (some q) := grown_trans (grown_trans G0 (grown_alloc w0 _ q)) g1
  have HR1 := hide (box_grown (box_alloc HR0.out _) g1 (by omega))
  have z1 : w.heap.size < w1.heap.size := (Array.getElem?_eq_some_iff.1 HR1.out).1
  have HK : Hid (kd.size ≤ 21) := by
    unfold Hid
    simp only [List.mem_cons, List.not_mem_nil, or_false] at hx
    rcases hx with rfl | rfl | rfl | rfl <;> decide
  clear hx g1 c0 G0 HR0
  have D0 : DrwP w B q w1.heap.size kd nt (.slice none 0 0) [] (w1.alloc (.cells #[.string kd, .slice none 0 0, .bool nt] 79)) := ⟨c1.keep (World.grownBy_alloc w1 _ none) (by simp) (by simp), boxk_new w1 _ _, World.ownsRow_nil _ _ _ _, grown_trans G1 (grown_alloc w1 _ q), ⟨hq, z1⟩, box_alloc HR1.out _, fun v hv => by cases hv⟩
  have d0 := boxk_cell D0.box 0 _ rfl
  cases hk : (kd.toList == [105, 116, 101, 109])
  · go_wp2
    obtain ⟨F, HF⟩ : ∃ F, Hid (w1.heap.size = F) := ⟨_, rfl⟩
    rw [HF.out] at D0 ⊢
    clear HF d0
    go_loopw [7] (fun i wr => ∃ (k : Nat) (v : Value) (L : List A5), L.length = k ∧ k ≤ 1 ∧ i = .int .i64 k ∧ DrwP w B q F kd nt v L wr) (fun i _ => (1 - intOf i).toNat)
    case atStart => exact ⟨0, _, [], rfl, by omega, rfl, D0⟩
    case round =>
      obtain ⟨k, v, L, rfl, hk2, rfl, D2⟩ := hrel
      clear D0
      by_cases hlt : (L.length : Int) < 1
      · obtain ⟨-, c1', -, -, f1', -⟩ := box_cell D2.box
        have HD := hide D2
        clear D2
        go_wp2_with fail
        go_region_law (first
          | (refine step_append_lies _ rfl (.tmp 22) (.tmp 25) 77 rfl (F + 1) 157 i0 (.agg #[.int .i64 0, .string ⟨#[]⟩, .int .i64 0, .int .i64 0, .string ⟨#[]⟩]) 5 56 Try.underlying77 hi hz0 hz1 hz2 rfl (by omega) v L.length (rowOf A5.cs L) (by simp [Act.eval]) (D3.alloc _).row ⟨w3.heap.size, 0, none⟩ 1 1 (A5.cs u) (by simp [Act.eval]) rfl (src5 w3 u) (one5 u) (by omega) (by unfold maxLen; omega) (by omega) (by have := D3.lt; simp; omega) _ rfl ?_; intro g cap w4 ho4 hg4 hat4 hlt4; obtain ⟨x1, y1, D4⟩ := (D3.alloc _).grew hu ho4 hg4)
          | (rw [if_pos (by simp [Region.wanted])]; go_simp; go_at_call 158; refine (l6Arg_any B q _ HD.out.drew.cur).mono ?_; rintro e w3 ⟨u, rfl, hu, c3, g3⟩; have D3 := HD.out.drew.draws c3 g3; obtain ⟨-, c3', -, -, f3', -⟩ := box_cell D3.box; obtain ⟨-, c3'', -, -, f3'', -⟩ := box_cell (D3.alloc (.cells #[.int .i64 u.K, .string u.S, .int .i64 u.V.K, .int .i64 u.V.N, .string u.V.S] 157)).box))
        all_goals
          have HD4 := hide D4
          clear c1' f1' c3' f3' c3'' f3'' x1 y1 D3 D4 HD
          go_wp2
          go_roundw
          case rel => exact ⟨L.length + 1, _, L ++ [u], by simp, by omega, by go_num, HD4.out⟩
          case measure => simp [intOf]; omega
      · obtain ⟨c0', c1', c2', -, -, -⟩ := box_cell D2.box
        obtain ⟨r0, r1, r2, rf0, rf1, rf2⟩ := box_cell D2.res
        obtain ⟨a, n, cp, hv⟩ : ∃ a n cp, v = .slice a n cp := by
          rcases D2.row.2 with ⟨h, _⟩ | ⟨g, cp, _, h, _⟩
          · exact ⟨_, _, _, h⟩
          · exact ⟨_, _, _, h⟩
        subst hv
        have HD := hide D2
        clear D2
        go_wp2
        refine box_post HD.out.res (fun w9 h9 gr => ?_)
        clear c0' c1' c2' r0 r1 r2 rf0 rf1 rf2
        obtain ⟨c0', c1', c2', -, -, -⟩ := box_cell h9
        have far := HD.out.far
        exact bodyPost_ret (v := .agg #[.string kd, .slice a n cp, .bool nt]) (by simp [results, Try.results141, go_sem, c0', c1', c2']) rfl ⟨kd, _, L, rfl, by omega, HK.out, HD.out.small, owns_base (HD.out.row.kept gr (own_neP HD.out.row (by omega))) (by omega), HD.out.cur.keep gr (by simp; omega) (fun k hk => by cases hk; omega), grown_more HD.out.gr gr (fun k hk => by cases hk; exact Nat.le_refl _)⟩
  · go_wp2
    obtain ⟨F, HF⟩ : ∃ F, Hid (w1.heap.size = F) := ⟨_, rfl⟩
    rw [HF.out] at D0 ⊢
    clear HF d0
    go_loopw [7] (fun i wr => ∃ (k : Nat) (v : Value) (L : List A5), L.length = k ∧ k ≤ 2 ∧ i = .int .i64 k ∧ DrwP w B q F kd nt v L wr) (fun i _ => (2 - intOf i).toNat)
    case atStart => exact ⟨0, _, [], rfl, by omega, rfl, D0⟩
    case round =>
      obtain ⟨k, v, L, rfl, hk2, rfl, D2⟩ := hrel
      clear D0
      by_cases hlt : (L.length : Int) < 2
      · obtain ⟨-, c1', -, -, f1', -⟩ := box_cell D2.box
        have HD := hide D2
        clear D2
        go_wp2_with fail
        go_region_law (first
          | (refine step_append_lies _ rfl (.tmp 22) (.tmp 25) 77 rfl (F + 1) 157 i0 (.agg #[.int .i64 0, .string ⟨#[]⟩, .int .i64 0, .int .i64 0, .string ⟨#[]⟩]) 5 56 Try.underlying77 hi hz0 hz1 hz2 rfl (by omega) v L.length (rowOf A5.cs L) (by simp [Act.eval]) (D3.alloc _).row ⟨w3.heap.size, 0, none⟩ 1 1 (A5.cs u) (by simp [Act.eval]) rfl (src5 w3 u) (one5 u) (by omega) (by unfold maxLen; omega) (by omega) (by have := D3.lt; simp; omega) _ rfl ?_; intro g cap w4 ho4 hg4 hat4 hlt4; obtain ⟨x1, y1, D4⟩ := (D3.alloc _).grew hu ho4 hg4)
          | (rw [if_pos (by simp [Region.wanted])]; go_simp; go_at_call 158; refine (l6Arg_any B q _ HD.out.drew.cur).mono ?_; rintro e w3 ⟨u, rfl, hu, c3, g3⟩; have D3 := HD.out.drew.draws c3 g3; obtain ⟨-, c3', -, -, f3', -⟩ := box_cell D3.box; obtain ⟨-, c3'', -, -, f3'', -⟩ := box_cell (D3.alloc (.cells #[.int .i64 u.K, .string u.S, .int .i64 u.V.K, .int .i64 u.V.N, .string u.V.S] 157)).box))
        all_goals
          have HD4 := hide D4
          clear c1' f1' c3' f3' c3'' f3'' x1 y1 D3 D4 HD
          go_wp2
          go_roundw
          case rel => exact ⟨L.length + 1, _, L ++ [u], by simp, by omega, by go_num, HD4.out⟩
          case measure => simp [intOf]; omega
      · obtain ⟨c0', c1', c2', -, -, -⟩ := box_cell D2.box
        obtain ⟨r0, r1, r2, rf0, rf1, rf2⟩ := box_cell D2.res
        obtain ⟨a, n, cp, hv⟩ : ∃ a n cp, v = .slice a n cp := by
          rcases D2.row.2 with ⟨h, _⟩ | ⟨g, cp, _, h, _⟩
          · exact ⟨_, _, _, h⟩
          · exact ⟨_, _, _, h⟩
        subst hv
        have HD := hide D2
        clear D2
        go_wp2
        refine box_post HD.out.res (fun w9 h9 gr => ?_)
        clear c0' c1' c2' r0 r1 r2 rf0 rf1 rf2
        obtain ⟨c0', c1', c2', -, -, -⟩ := box_cell h9
        have far := HD.out.far
        exact bodyPost_ret (v := .agg #[.string kd, .slice a n cp, .bool nt]) (by simp [results, Try.results141, go_sem, c0', c1', c2']) rfl ⟨kd, _, L, rfl, by omega, HK.out, HD.out.small, owns_base (HD.out.row.kept gr (own_neP HD.out.row (by omega))) (by omega), HD.out.cur.keep gr (by simp; omega) (fun k hk => by cases hk; omega), grown_more HD.out.gr gr (fun k hk => by cases hk; exact Nat.le_refl _)⟩
end Go.Proofs.Ytfgigcdfmkfkjaa
/-
  Boxes of eleven cells, and two or three boxes side by side: their cells set, what stands.
-/
namespace Go.Proofs.Ytfgigcdfmkfkjaa
open Go.RowKit
set_option linter.unusedVariables false

theorem boxes3 (w : World) (c1 c2 c3 : Array Value) (T1 T2 T3 : TypeId) : (((w.alloc (.cells c1 T1)).alloc (.cells c2 T2)).alloc (.cells c3 T3)).heap[w.heap.size]? = some (.cells c1 T1 (0, 0)) ∧ (((w.alloc (.cells c1 T1)).alloc (.cells c2 T2)).alloc (.cells c3 T3)).heap[w.heap.size + 1]? = some (.cells c2 T2 (0, 0)) ∧ (((w.alloc (.cells c1 T1)).alloc (.cells c2 T2)).alloc (.cells c3 T3)).heap[w.heap.size + 1 + 1]? = some (.cells c3 T3 (0, 0)) ∧ Below w.heap.size w (((w.alloc (.cells c1 T1)).alloc (.cells c2 T2)).alloc (.cells c3 T3)) := by
  have b0 := below_al w (.cells c1 T1)
  have b1 := b0.alloc b0.size (.cells c2 T2)
  have b2 := b1.alloc b1.size (.cells c3 T3)
  have hA := box_old (box_old (boxk_new w c1 T1) (by simp) (.cells c2 T2)) (by simp; omega) (.cells c3 T3)
  have hR := box_old (boxk_new (w.alloc (.cells c1 T1)) c2 T2) (by simp) (.cells c3 T3)
  have hX := boxk_new ((w.alloc (.cells c1 T1)).alloc (.cells c2 T2)) c3 T3
  simp only [World.size_alloc] at hR hX
  exact ⟨hA, hR, hX, b2⟩
theorem boxes2 (w : World) (c1 c2 : Array Value) (T1 T2 : TypeId) : ((w.alloc (.cells c1 T1)).alloc (.cells c2 T2)).heap[w.heap.size]? = some (.cells c1 T1 (0, 0)) ∧ ((w.alloc (.cells c1 T1)).alloc (.cells c2 T2)).heap[w.heap.size + 1]? = some (.cells c2 T2 (0, 0)) ∧ Below w.heap.size w ((w.alloc (.cells c1 T1)).alloc (.cells c2 T2)) := by
  have b0 := below_al w (.cells c1 T1)
  have b1 := b0.alloc b0.size (.cells c2 T2)
  have hA := box_old (boxk_new w c1 T1) (by simp) (.cells c2 T2)
  have hX := boxk_new (w.alloc (.cells c1 T1)) c2 T2
  simp only [World.size_alloc] at hX
  exact ⟨hA, hX, b1⟩
theorem box11_set {w : World} {q : Nat} {c0 c1 c2 c3 c4 c5 c6 c7 c8 c9 c10 : Value} {T : TypeId} (h : w.heap[q]? = some (.cells #[c0, c1, c2, c3, c4, c5, c6, c7, c8, c9, c10] T (0, 0))) (v0 v1 v2 v3 v4 v5 v6 v7 v8 v9 v10 : Value) :
    (((((((((((w.setCell ⟨q, 0, none⟩ v0).setCell ⟨q, 1, none⟩ v1).setCell ⟨q, 2, none⟩ v2).setCell ⟨q, 3, none⟩ v3).setCell ⟨q, 4, none⟩ v4).setCell ⟨q, 5, none⟩ v5).setCell ⟨q, 6, none⟩ v6).setCell ⟨q, 7, none⟩ v7).setCell ⟨q, 8, none⟩ v8).setCell ⟨q, 9, none⟩ v9).setCell ⟨q, 10, none⟩ v10).heap[q]? = some (.cells #[v0, v1, v2, v3, v4, v5, v6, v7, v8, v9, v10] T (0, 0)) ∧ w.grownBy (((((((((((w.setCell ⟨q, 0, none⟩ v0).setCell ⟨q, 1, none⟩ v1).setCell ⟨q, 2, none⟩ v2).setCell ⟨q, 3, none⟩ v3).setCell ⟨q, 4, none⟩ v4).setCell ⟨q, 5, none⟩ v5).setCell ⟨q, 6, none⟩ v6).setCell ⟨q, 7, none⟩ v7).setCell ⟨q, 8, none⟩ v8).setCell ⟨q, 9, none⟩ v9).setCell ⟨q, 10, none⟩ v10) (some q) := by
  have g0 := (boxk_set h 0 v0).2
  have h0 : (w.setCell ⟨q, 0, none⟩ v0).heap[q]? = some (.cells #[v0, c1, c2, c3, c4, c5, c6, c7, c8, c9, c10] T (0, 0)) := (boxk_set h 0 v0).1
  have g1 := (boxk_set h0 1 v1).2
  have h1 : ((w.setCell ⟨q, 0, none⟩ v0).setCell ⟨q, 1, none⟩ v1).heap[q]? = some (.cells #[v0, v1, c2, c3, c4, c5, c6, c7, c8, c9, c10] T (0, 0)) := (boxk_set h0 1 v1).1
  have g2 := (boxk_set h1 2 v2).2
  have h2 : (((w.setCell ⟨q, 0, none⟩ v0).setCell ⟨q, 1, none⟩ v1).setCell ⟨q, 2, none⟩ v2).heap[q]? = some (.cells #[v0, v1, v2, c3, c4, c5, c6, c7, c8, c9, c10] T (0, 0)) := (boxk_set h1 2 v2).1
  have g3 := (boxk_set h2 3 v3).2
  have h3 : ((((w.setCell ⟨q, 0, none⟩ v0).setCell ⟨q, 1, none⟩ v1).setCell ⟨q, 2, none⟩ v2).setCell ⟨q, 3, none⟩ v3).heap[q]? = some (.cells #[v0, v1, v2, v3, c4, c5, c6, c7, c8, c9, c10] T (0, 0)) := (boxk_set h2 3 v3).1
  have g4 := (boxk_set h3 4 v4).2
  have h4 : (((((w.setCell ⟨q, 0, none⟩ v0).setCell ⟨q, 1, none⟩ v1).setCell ⟨q, 2, none⟩ v2).setCell ⟨q, 3, none⟩ v3).setCell ⟨q, 4, none⟩ v4).heap[q]? = some (.cells #[v0, v1, v2, v3, v4, c5, c6, c7, c8, c9, c10] T (0, 0)) := (boxk_set h3 4 v4).1
  have g5 := (boxk_set h4 5 v5).2
  have h5 : ((((((w.setCell ⟨q, 0, none⟩ v0).setCell ⟨q, 1, none⟩ v1).setCell ⟨q, 2, none⟩ v2).setCell ⟨q, 3, none⟩ v3).setCell ⟨q, 4, none⟩ v4).setCell ⟨q, 5, none⟩ v5).heap[q]? = some (.cells #[v0, v1, v2, v3, v4, v5, c6, c7, c8, c9, c10] T (0, 0)) := (boxk_set h4 5 v5).1
  have g6 := (boxk_set h5 6 v6).2
  have h6 : (((((((w.setCell ⟨q, 0, none⟩ v0).setCell ⟨q, 1, none⟩ v1).setCell ⟨q, 2, none⟩ v2).setCell ⟨q, 3, none⟩ v3).setCell ⟨q, 4, none⟩ v4).setCell ⟨q, 5, none⟩ v5).setCell ⟨q, 6, none⟩ v6).heap[q]? = some (.cells #[v0, v1, v2, v3, v4, v5, v6, c7, c8, c9, c10] T (0, 0)) := (boxk_set h5 6 v6).1
  have g7 := (boxk_set h6 7 v7).2
  have h7 : ((((((((w.setCell ⟨q, 0, none⟩ v0).setCell ⟨q, 1, none⟩ v1).setCell ⟨q, 2, none⟩ v2).setCell ⟨q, 3, none⟩ v3).setCell ⟨q, 4, none⟩ v4).setCell ⟨q, 5, none⟩ v5).setCell ⟨q, 6, none⟩ v6).setCell ⟨q, 7, none⟩ v7).heap[q]? = some (.cells #[v0, v1, v2, v3, v4, v5, v6, v7, c8, c9, c10] T (0, 0)) := (boxk_set h6 7 v7).1
  have g8 := (boxk_set h7 8 v8).2
  have h8 : (((((((((w.setCell ⟨q, 0, none⟩ v0).setCell ⟨q, 1, none⟩ v1).setCell ⟨q, 2, none⟩ v2).setCell ⟨q, 3, none⟩ v3).setCell ⟨q, 4, none⟩ v4).setCell ⟨q, 5, none⟩ v5).setCell ⟨q, 6, none⟩ v6).setCell ⟨q, 7, none⟩ v7).setCell ⟨q, 8, none⟩ v8).heap[q]? = some (.cells #[v0, v1, v2, v3, v4, v5, v6, v7, v8, c9, c10] T (0, 0)) := (boxk_set h7 8 v8).1
  have g9 := (boxk_set h8 9 v9).2
  have h9 : ((((((((((w.setCell ⟨q, 0, none⟩ v0).setCell ⟨q, 1, none⟩ v1).setCell ⟨q, 2, none⟩ v2).setCell ⟨q, 3, none⟩ v3).setCell ⟨q, 4, none⟩ v4).setCell ⟨q, 5, none⟩ v5).setCell ⟨q, 6, none⟩ v6).setCell ⟨q, 7, none⟩ v7).setCell ⟨q, 8, none⟩ v8).setCell ⟨q, 9, none⟩ v9).heap[q]? = some (.cells #[v0, v1, v2, v3, v4, v5, v6, v7, v8, v9, c10] T (0, 0)) := (boxk_set h8 9 v9).1
  have g10 := (boxk_set h9 10 v10).2
  have h10 : (((((((((((w.setCell ⟨q, 0, none⟩ v0).setCell ⟨q, 1, none⟩ v1).setCell ⟨q, 2, none⟩ v2).setCell ⟨q, 3, none⟩ v3).setCell ⟨q, 4, none⟩ v4).setCell ⟨q, 5, none⟩ v5).setCell ⟨q, 6, none⟩ v6).setCell ⟨q, 7, none⟩ v7).setCell ⟨q, 8, none⟩ v8).setCell ⟨q, 9, none⟩ v9).setCell ⟨q, 10, none⟩ v10).heap[q]? = some (.cells #[v0, v1, v2, v3, v4, v5, v6, v7, v8, v9, v10] T (0, 0)) := (boxk_set h9 10 v10).1
  exact ⟨h10, (grown_tt (grown_tt (grown_tt (grown_tt (grown_tt (grown_tt (grown_tt (grown_tt (grown_tt (grown_tt g0 g1) g2) g3) g4) g5) g6) g7) g8) g9) g10)⟩
theorem box11_setL {w : World} {q : Nat} {c0 c1 c2 c3 c4 c5 c6 c7 c8 c9 c10 : Value} {T : TypeId} (h : w.heap[q]? = some (.cells #[c0, c1, c2, c3, c4, c5, c6, c7, c8, c9, c10] T (0, 0))) (v1 v2 v3 v4 v5 : Value) :
    (((((w.setCell ⟨q, 1, none⟩ v1).setCell ⟨q, 2, none⟩ v2).setCell ⟨q, 3, none⟩ v3).setCell ⟨q, 4, none⟩ v4).setCell ⟨q, 5, none⟩ v5).heap[q]? = some (.cells #[c0, v1, v2, v3, v4, v5, c6, c7, c8, c9, c10] T (0, 0)) ∧ w.grownBy (((((w.setCell ⟨q, 1, none⟩ v1).setCell ⟨q, 2, none⟩ v2).setCell ⟨q, 3, none⟩ v3).setCell ⟨q, 4, none⟩ v4).setCell ⟨q, 5, none⟩ v5) (some q) := by
  have g1 := (boxk_set h 1 v1).2
  have h1 : (w.setCell ⟨q, 1, none⟩ v1).heap[q]? = some (.cells #[c0, v1, c2, c3, c4, c5, c6, c7, c8, c9, c10] T (0, 0)) := (boxk_set h 1 v1).1
  have g2 := (boxk_set h1 2 v2).2
  have h2 : ((w.setCell ⟨q, 1, none⟩ v1).setCell ⟨q, 2, none⟩ v2).heap[q]? = some (.cells #[c0, v1, v2, c3, c4, c5, c6, c7, c8, c9, c10] T (0, 0)) := (boxk_set h1 2 v2).1
  have g3 := (boxk_set h2 3 v3).2
  have h3 : (((w.setCell ⟨q, 1, none⟩ v1).setCell ⟨q, 2, none⟩ v2).setCell ⟨q, 3, none⟩ v3).heap[q]? = some (.cells #[c0, v1, v2, v3, c4, c5, c6, c7, c8, c9, c10] T (0, 0)) := (boxk_set h2 3 v3).1
  have g4 := (boxk_set h3 4 v4).2
  have h4 : ((((w.setCell ⟨q, 1, none⟩ v1).setCell ⟨q, 2, none⟩ v2).setCell ⟨q, 3, none⟩ v3).setCell ⟨q, 4, none⟩ v4).heap[q]? = some (.cells #[c0, v1, v2, v3, v4, c5, c6, c7, c8, c9, c10] T (0, 0)) := (boxk_set h3 4 v4).1
  have g5 := (boxk_set h4 5 v5).2
  have h5 : (((((w.setCell ⟨q, 1, none⟩ v1).setCell ⟨q, 2, none⟩ v2).setCell ⟨q, 3, none⟩ v3).setCell ⟨q, 4, none⟩ v4).setCell ⟨q, 5, none⟩ v5).heap[q]? = some (.cells #[c0, v1, v2, v3, v4, v5, c6, c7, c8, c9, c10] T (0, 0)) := (boxk_set h4 5 v5).1
  exact ⟨h5, (grown_tt (grown_tt (grown_tt (grown_tt g1 g2) g3) g4) g5)⟩
theorem box11_setR {w : World} {q : Nat} {c0 c1 c2 c3 c4 c5 c6 c7 c8 c9 c10 : Value} {T : TypeId} (h : w.heap[q]? = some (.cells #[c0, c1, c2, c3, c4, c5, c6, c7, c8, c9, c10] T (0, 0))) (v6 v7 v8 v9 v10 : Value) :
    (((((w.setCell ⟨q, 6, none⟩ v6).setCell ⟨q, 7, none⟩ v7).setCell ⟨q, 8, none⟩ v8).setCell ⟨q, 9, none⟩ v9).setCell ⟨q, 10, none⟩ v10).heap[q]? = some (.cells #[c0, c1, c2, c3, c4, c5, v6, v7, v8, v9, v10] T (0, 0)) ∧ w.grownBy (((((w.setCell ⟨q, 6, none⟩ v6).setCell ⟨q, 7, none⟩ v7).setCell ⟨q, 8, none⟩ v8).setCell ⟨q, 9, none⟩ v9).setCell ⟨q, 10, none⟩ v10) (some q) := by
  have g6 := (boxk_set h 6 v6).2
  have h6 : (w.setCell ⟨q, 6, none⟩ v6).heap[q]? = some (.cells #[c0, c1, c2, c3, c4, c5, v6, c7, c8, c9, c10] T (0, 0)) := (boxk_set h 6 v6).1
  have g7 := (boxk_set h6 7 v7).2
  have h7 : ((w.setCell ⟨q, 6, none⟩ v6).setCell ⟨q, 7, none⟩ v7).heap[q]? = some (.cells #[c0, c1, c2, c3, c4, c5, v6, v7, c8, c9, c10] T (0, 0)) := (boxk_set h6 7 v7).1
  have g8 := (boxk_set h7 8 v8).2
  have h8 : (((w.setCell ⟨q, 6, none⟩ v6).setCell ⟨q, 7, none⟩ v7).setCell ⟨q, 8, none⟩ v8).heap[q]? = some (.cells #[c0, c1, c2, c3, c4, c5, v6, v7, v8, c9, c10] T (0, 0)) := (boxk_set h7 8 v8).1
  have g9 := (boxk_set h8 9 v9).2
  have h9 : ((((w.setCell ⟨q, 6, none⟩ v6).setCell ⟨q, 7, none⟩ v7).setCell ⟨q, 8, none⟩ v8).setCell ⟨q, 9, none⟩ v9).heap[q]? = some (.cells #[c0, c1, c2, c3, c4, c5, v6, v7, v8, v9, c10] T (0, 0)) := (boxk_set h8 9 v9).1
  have g10 := (boxk_set h9 10 v10).2
  have h10 : (((((w.setCell ⟨q, 6, none⟩ v6).setCell ⟨q, 7, none⟩ v7).setCell ⟨q, 8, none⟩ v8).setCell ⟨q, 9, none⟩ v9).setCell ⟨q, 10, none⟩ v10).heap[q]? = some (.cells #[c0, c1, c2, c3, c4, c5, v6, v7, v8, v9, v10] T (0, 0)) := (boxk_set h9 10 v10).1
  exact ⟨h10, (grown_tt (grown_tt (grown_tt (grown_tt g6 g7) g8) g9) g10)⟩
theorem box11_post {P : Program} {f : Func} {Q : Ending → World → Prop} {x : Exit} {act : Act} {w : World} {q : Nat} {c0 c1 c2 c3 c4 c5 c6 c7 c8 c9 c10 v0 v1 v2 v3 v4 v5 v6 v7 v8 v9 v10 : Value} {T : TypeId} (h : w.heap[q]? = some (.cells #[c0, c1, c2, c3, c4, c5, c6, c7, c8, c9, c10] T (0, 0)))
    (k : ∀ w2, w2.heap[q]? = some (.cells #[v0, v1, v2, v3, v4, v5, v6, v7, v8, v9, v10] T (0, 0)) → w.grownBy w2 (some q) → bodyPost P f Q x act w2) : bodyPost P f Q x act (((((((((((w.setCell ⟨q, 0, none⟩ v0).setCell ⟨q, 1, none⟩ v1).setCell ⟨q, 2, none⟩ v2).setCell ⟨q, 3, none⟩ v3).setCell ⟨q, 4, none⟩ v4).setCell ⟨q, 5, none⟩ v5).setCell ⟨q, 6, none⟩ v6).setCell ⟨q, 7, none⟩ v7).setCell ⟨q, 8, none⟩ v8).setCell ⟨q, 9, none⟩ v9).setCell ⟨q, 10, none⟩ v10) :=
  k _ (box11_set h v0 v1 v2 v3 v4 v5 v6 v7 v8 v9 v10).1 (box11_set h v0 v1 v2 v3 v4 v5 v6 v7 v8 v9 v10).2
end Go.Proofs.Ytfgigcdfmkfkjaa
/-
  The contracts of the laws' own helpers on Conds: to copies, sz counts off, eq finds one the same as itself.
-/
namespace Go.Proofs.Ytfgigcdfmkfkjaa
open Go.RowKit
set_option linter.unusedVariables false

theorem Try.info162 : (Try.prog.info? 162).map (fun i => (i.zero, i.size, i.bytes)) = some (some (.agg #[.int .i64 0, .int .i64 0, .string ⟨#[]⟩, .int .i64 0, .int .i64 0, .string ⟨#[]⟩, .int .i64 0, .string ⟨#[]⟩, .int .i64 0, .int .i64 0, .string ⟨#[]⟩]), 11, 120) := by kernel_rfl

set_option maxRecDepth 100000 in
set_option maxHeartbeats 3200000 in
theorem toCond_any (Op : Int) (LK : Int) (LS : ByteArray) (LVK : Int) (LVN : Int) (LVS : ByteArray) (RK : Int) (RS : ByteArray) (RVK : Int) (RVN : Int) (RVS : ByteArray) (w : World) :
    Calls Try.prog 95 #[.agg #[.int .i64 Op, .int .i64 LK, .string LS, .int .i64 LVK, .int .i64 LVN, .string LVS, .int .i64 RK, .string RS, .int .i64 RVK, .int .i64 RVN, .string RVS]] w fun e w' => e = .returned (.agg #[.int .i64 Op, .int .i64 LK, .string LS, .int .i64 LVK, .int .i64 LVN, .string LVS, .int .i64 RK, .string RS, .int .i64 RVK, .int .i64 RVN, .string RVS]) ∧ Below w.heap.size w w' := by
  go_enter Try.func95, Try.ntmps95
  go_wp2_with fail
  obtain ⟨hA, hR, hX, b2⟩ := boxes3 w #[.int .i64 Op, .int .i64 LK, .string LS, .int .i64 LVK, .int .i64 LVN, .string LVS, .int .i64 RK, .string RS, .int .i64 RVK, .int .i64 RVN, .string RVS] #[.int .i64 0, .int .i64 0, .string ⟨#[]⟩, .int .i64 0, .int .i64 0, .string ⟨#[]⟩, .int .i64 0, .string ⟨#[]⟩, .int .i64 0, .int .i64 0, .string ⟨#[]⟩] #[.int .i64 Op, .int .i64 0, .string ⟨#[]⟩, .int .i64 0, .int .i64 0, .string ⟨#[]⟩, .int .i64 0, .string ⟨#[]⟩, .int .i64 0, .int .i64 0, .string ⟨#[]⟩] 144 162 162
  refine (toArg_any LK LS LVK LVN LVS _).mono ?_
  rintro e w1 ⟨rfl, hb⟩
  have HA := hide (box_below hA hb (by simp; omega))
  have HR := hide (box_below hR hb (by simp))
  have HX := hide (box_below hX hb (by simp))
  have hB : Below w.heap.size w w1 := b2.trans (hb.mono b2.size)
  clear hb hR hX hA b2
  have x0 := boxk_cell HX.out 0 _ rfl
  have xf0 := boxk_frozen HX.out 0
  have x1 := boxk_cell HX.out 1 _ rfl
  have xf1 := boxk_frozen HX.out 1
  have x2 := boxk_cell HX.out 2 _ rfl
  have xf2 := boxk_frozen HX.out 2
  have x3 := boxk_cell HX.out 3 _ rfl
  have xf3 := boxk_frozen HX.out 3
  have x4 := boxk_cell HX.out 4 _ rfl
  have xf4 := boxk_frozen HX.out 4
  have x5 := boxk_cell HX.out 5 _ rfl
  have xf5 := boxk_frozen HX.out 5
  have x6 := boxk_cell HX.out 6 _ rfl
  have xf6 := boxk_frozen HX.out 6
  have x7 := boxk_cell HX.out 7 _ rfl
  have xf7 := boxk_frozen HX.out 7
  have x8 := boxk_cell HX.out 8 _ rfl
  have xf8 := boxk_frozen HX.out 8
  have x9 := boxk_cell HX.out 9 _ rfl
  have xf9 := boxk_frozen HX.out 9
  have x10 := boxk_cell HX.out 10 _ rfl
  have xf10 := boxk_frozen HX.out 10
  have a6 := boxk_cell HA.out 6 _ rfl
  have a7 := boxk_cell HA.out 7 _ rfl
  have a8 := boxk_cell HA.out 8 _ rfl
  have a9 := boxk_cell HA.out 9 _ rfl
  have a10 := boxk_cell HA.out 10 _ rfl
  have HL := hide (box11_setL HX.out (.int .i64 LK) (.string LS) (.int .i64 LVK) (.int .i64 LVN) (.string LVS))
  have HRs := hide (box_gr HR.out HL.out.2 (by omega))
  have HBs := hide (below_set hB HL.out.2 (by omega))
  have HXs := hide HL.out.1
  go_wp2_with fail
  refine (toArg_any RK RS RVK RVN RVS _).mono ?_
  clear x0 xf0 x1 xf1 x2 xf2 x3 xf3 x4 xf4 x5 xf5 x6 xf6 x7 xf7 x8 xf8 x9 xf9 x10 xf10 a6 a7 a8 a9 a10 HX HR HA hB HL
  generalize (((((w1.setCell ⟨w.heap.size + 1 + 1, 1, none⟩ (.int .i64 LK)).setCell ⟨w.heap.size + 1 + 1, 2, none⟩ (.string LS)).setCell ⟨w.heap.size + 1 + 1, 3, none⟩ (.int .i64 LVK)).setCell ⟨w.heap.size + 1 + 1, 4, none⟩ (.int .i64 LVN)).setCell ⟨w.heap.size + 1 + 1, 5, none⟩ (.string LVS)) = w2 at HRs HBs HXs
  rintro e w3 ⟨rfl, hb⟩
  have HR3 := hide (box_step HRs.out hb)
  have HX3 := hide (box_step HXs.out hb)
  have hB3 : Below w.heap.size w w3 := HBs.out.trans (hb.mono HBs.out.size)
  clear hb HRs HBs HXs
  have x0 := boxk_cell HX3.out 0 _ rfl
  have xf0 := boxk_frozen HX3.out 0
  have x1 := boxk_cell HX3.out 1 _ rfl
  have xf1 := boxk_frozen HX3.out 1
  have x2 := boxk_cell HX3.out 2 _ rfl
  have xf2 := boxk_frozen HX3.out 2
  have x3 := boxk_cell HX3.out 3 _ rfl
  have xf3 := boxk_frozen HX3.out 3
  have x4 := boxk_cell HX3.out 4 _ rfl
  have xf4 := boxk_frozen HX3.out 4
  have x5 := boxk_cell HX3.out 5 _ rfl
  have xf5 := boxk_frozen HX3.out 5
  have x6 := boxk_cell HX3.out 6 _ rfl
  have xf6 := boxk_frozen HX3.out 6
  have x7 := boxk_cell HX3.out 7 _ rfl
  have xf7 := boxk_frozen HX3.out 7
  have x8 := boxk_cell HX3.out 8 _ rfl
  have xf8 := boxk_frozen HX3.out 8
  have x9 := boxk_cell HX3.out 9 _ rfl
  have xf9 := boxk_frozen HX3.out 9
  have x10 := boxk_cell HX3.out 10 _ rfl
  have xf10 := boxk_frozen HX3.out 10
  have HX6 := hide (box11_setR HX3.out (.int .i64 RK) (.string RS) (.int .i64 RVK) (.int .i64 RVN) (.string RVS))
  have HR4 := hide (box_gr HR3.out HX6.out.2 (by omega))
  have HB4 := hide (below_set hB3 HX6.out.2 (by omega))
  have HX7 := hide HX6.out.1
  go_upto_region 5 with fail
  clear x0 xf0 x1 xf1 x2 xf2 x3 xf3 x4 xf4 x5 xf5 x6 xf6 x7 xf7 x8 xf8 x9 xf9 x10 xf10 HX6 HX3 HR3 hB3
  generalize (((((w3.setCell ⟨w.heap.size + 1 + 1, 6, none⟩ (.int .i64 RK)).setCell ⟨w.heap.size + 1 + 1, 7, none⟩ (.string RS)).setCell ⟨w.heap.size + 1 + 1, 8, none⟩ (.int .i64 RVK)).setCell ⟨w.heap.size + 1 + 1, 9, none⟩ (.int .i64 RVN)).setCell ⟨w.heap.size + 1 + 1, 10, none⟩ (.string RVS)) = w5 at HR4 HB4 HX7
  have x0 := boxk_cell HX7.out 0 _ rfl
  have r0 := boxk_cell HR4.out 0 _ rfl
  have rf0 := boxk_frozen HR4.out 0
  have x1 := boxk_cell HX7.out 1 _ rfl
  have r1 := boxk_cell HR4.out 1 _ rfl
  have rf1 := boxk_frozen HR4.out 1
  have x2 := boxk_cell HX7.out 2 _ rfl
  have r2 := boxk_cell HR4.out 2 _ rfl
  have rf2 := boxk_frozen HR4.out 2
  have x3 := boxk_cell HX7.out 3 _ rfl
  have r3 := boxk_cell HR4.out 3 _ rfl
  have rf3 := boxk_frozen HR4.out 3
  have x4 := boxk_cell HX7.out 4 _ rfl
  have r4 := boxk_cell HR4.out 4 _ rfl
  have rf4 := boxk_frozen HR4.out 4
  have x5 := boxk_cell HX7.out 5 _ rfl
  have r5 := boxk_cell HR4.out 5 _ rfl
  have rf5 := boxk_frozen HR4.out 5
  have x6 := boxk_cell HX7.out 6 _ rfl
  have r6 := boxk_cell HR4.out 6 _ rfl
  have rf6 := boxk_frozen HR4.out 6
  have x7 := boxk_cell HX7.out 7 _ rfl
  have r7 := boxk_cell HR4.out 7 _ rfl
  have rf7 := boxk_frozen HR4.out 7
  have x8 := boxk_cell HX7.out 8 _ rfl
  have r8 := boxk_cell HR4.out 8 _ rfl
  have rf8 := boxk_frozen HR4.out 8
  have x9 := boxk_cell HX7.out 9 _ rfl
  have r9 := boxk_cell HR4.out 9 _ rfl
  have rf9 := boxk_frozen HR4.out 9
  have x10 := boxk_cell HX7.out 10 _ rfl
  have r10 := boxk_cell HR4.out 10 _ rfl
  have rf10 := boxk_frozen HR4.out 10
  go_wp2
  refine box11_post HR4.out (fun w4 h4 gr => ?_)
  clear x0 r0 rf0 x1 r1 rf1 x2 r2 rf2 x3 r3 rf3 x4 r4 rf4 x5 r5 rf5 x6 r6 rf6 x7 r7 rf7 x8 r8 rf8 x9 r9 rf9 x10 r10 rf10
  have c0 := boxk_cell h4 0 _ rfl
  have c1 := boxk_cell h4 1 _ rfl
  have c2 := boxk_cell h4 2 _ rfl
  have c3 := boxk_cell h4 3 _ rfl
  have c4 := boxk_cell h4 4 _ rfl
  have c5 := boxk_cell h4 5 _ rfl
  have c6 := boxk_cell h4 6 _ rfl
  have c7 := boxk_cell h4 7 _ rfl
  have c8 := boxk_cell h4 8 _ rfl
  have c9 := boxk_cell h4 9 _ rfl
  have c10 := boxk_cell h4 10 _ rfl
  exact bodyPost_ret (v := .agg #[.int .i64 Op, .int .i64 LK, .string LS, .int .i64 LVK, .int .i64 LVN, .string LVS, .int .i64 RK, .string RS, .int .i64 RVK, .int .i64 RVN, .string RVS]) (by simp [results, Try.results95, go_sem, c0, c1, c2, c3, c4, c5, c6, c7, c8, c9, c10]) rfl ⟨rfl, below_set HB4.out gr (by omega)⟩

set_option maxRecDepth 100000 in
set_option maxHeartbeats 1600000 in
theorem szCond_any (Op : Int) (LK : Int) (LS : ByteArray) (LVK : Int) (LVN : Int) (LVS : ByteArray) (RK : Int) (RS : ByteArray) (RVK : Int) (RVN : Int) (RVS : ByteArray) (left : Int) (w : World) (s0 : LS.size ≤ maxLen) (s1 : LVS.size ≤ maxLen) (s2 : RS.size ≤ maxLen) (s3 : RVS.size ≤ maxLen) (h0 : 0 ≤ left) (h1 : left ≤ 1048576) :
    Calls Try.prog 89 #[.agg #[.int .i64 Op, .int .i64 LK, .string LS, .int .i64 LVK, .int .i64 LVN, .string LVS, .int .i64 RK, .string RS, .int .i64 RVK, .int .i64 RVN, .string RVS], .int .i64 left] w fun e w' =>
      (∃ r, e = .returned (.int .i64 r) ∧ (r = -1 ∨ (0 ≤ r ∧ r + (LS.size : Int) + (LVS.size : Int) + (RS.size : Int) + (RVS.size : Int) ≤ left))) ∧ Below w.heap.size w w' := by
  go_enter Try.func89, Try.ntmps89
  go_wp2_with fail
  have b0 := below_al w (.cells #[.int .i64 Op, .int .i64 LK, .string LS, .int .i64 LVK, .int .i64 LVN, .string LVS, .int .i64 RK, .string RS, .int .i64 RVK, .int .i64 RVN, .string RVS] 144)
  have hA := boxk_new w #[.int .i64 Op, .int .i64 LK, .string LS, .int .i64 LVK, .int .i64 LVN, .string LVS, .int .i64 RK, .string RS, .int .i64 RVK, .int .i64 RVN, .string RVS] 144
  refine (szArg_any LK LS LVK LVN LVS left _ s0 s1 h0 h1).mono ?_
  rintro e w1 ⟨⟨r, rfl, hr⟩, hb1⟩
  have HA1 := hide (box_below hA hb1 (by simp))
  have hB1 : Below w.heap.size w w1 := b0.trans (hb1.mono b0.size)
  clear hb1 b0 hA
  rcases hr with rfl | ⟨h2, h3⟩
  · go_wp2
    go_ret
    exact ⟨⟨-1, rfl, .inl rfl⟩, hB1⟩
  · have H3 := hide h3
    have h4 : r ≤ 1048576 := by omega
    clear h3
    have a6 := boxk_cell HA1.out 6 _ rfl
    have a7 := boxk_cell HA1.out 7 _ rfl
    have a8 := boxk_cell HA1.out 8 _ rfl
    have a9 := boxk_cell HA1.out 9 _ rfl
    have a10 := boxk_cell HA1.out 10 _ rfl
    go_wp2_with fail
    refine (szArg_any RK RS RVK RVN RVS r _ s2 s3 h2 h4).mono ?_
    rintro e w2 ⟨⟨r2, rfl, hr2⟩, hb2⟩
    have hB2 : Below w.heap.size w w2 := hB1.trans (hb2.mono hB1.size)
    clear hb2 hB1 HA1 a6 a7 a8 a9 a10
    rcases hr2 with rfl | ⟨h5, h6⟩
    · go_wp2
      go_ret
      exact ⟨⟨-1, rfl, .inl rfl⟩, hB2⟩
    · have H6 := hide h6
      clear h6
      go_wp2
      go_ret
      have := H3.out
      have := H6.out
      exact ⟨⟨_, rfl, .inr ⟨h5, by omega⟩⟩, hB2⟩

set_option maxRecDepth 100000 in
set_option maxHeartbeats 1600000 in
theorem eqCond_same (Op : Int) (LK : Int) (LS : ByteArray) (LVK : Int) (LVN : Int) (LVS : ByteArray) (RK : Int) (RS : ByteArray) (RVK : Int) (RVN : Int) (RVS : ByteArray) (w : World) :
    Calls Try.prog 105 #[.agg #[.int .i64 Op, .int .i64 LK, .string LS, .int .i64 LVK, .int .i64 LVN, .string LVS, .int .i64 RK, .string RS, .int .i64 RVK, .int .i64 RVN, .string RVS], .agg #[.int .i64 Op, .int .i64 LK, .string LS, .int .i64 LVK, .int .i64 LVN, .string LVS, .int .i64 RK, .string RS, .int .i64 RVK, .int .i64 RVN, .string RVS]] w fun e w' => e = .returned (.bool true) ∧ Below w.heap.size w w' := by
  have kO : (Op != Op) = false := by simp
  go_enter Try.func105, Try.ntmps105
  go_wp2_with fail
  obtain ⟨hA, hD, b1⟩ := boxes2 w #[.int .i64 Op, .int .i64 LK, .string LS, .int .i64 LVK, .int .i64 LVN, .string LVS, .int .i64 RK, .string RS, .int .i64 RVK, .int .i64 RVN, .string RVS] #[.int .i64 Op, .int .i64 LK, .string LS, .int .i64 LVK, .int .i64 LVN, .string LVS, .int .i64 RK, .string RS, .int .i64 RVK, .int .i64 RVN, .string RVS] 162 162
  refine (eqArg_same LK LS LVK LVN LVS _).mono ?_
  rintro e w1 ⟨rfl, hb⟩
  have HA := hide (box_below hA hb (by simp; omega))
  have HD := hide (box_below hD hb (by simp))
  have hB : Below w.heap.size w w1 := b1.trans (hb.mono b1.size)
  clear hb hA hD b1
  have a6 := boxk_cell HA.out 6 _ rfl
  have d6 := boxk_cell HD.out 6 _ rfl
  have a7 := boxk_cell HA.out 7 _ rfl
  have d7 := boxk_cell HD.out 7 _ rfl
  have a8 := boxk_cell HA.out 8 _ rfl
  have d8 := boxk_cell HD.out 8 _ rfl
  have a9 := boxk_cell HA.out 9 _ rfl
  have d9 := boxk_cell HD.out 9 _ rfl
  have a10 := boxk_cell HA.out 10 _ rfl
  have d10 := boxk_cell HD.out 10 _ rfl
  go_wp2_with fail
  refine (eqArg_same RK RS RVK RVN RVS _).mono ?_
  rintro e w2 ⟨rfl, hb⟩
  have hB2 : Below w.heap.size w w2 := hB.trans (hb.mono hB.size)
  go_wp2
  go_ret
  exact ⟨rfl, hB2⟩
end Go.Proofs.Ytfgigcdfmkfkjaa
/-
  The contracts of the draws of conditions: some, whatever they are, with short texts.
-/
namespace Go.Proofs.Ytfgigcdfmkfkjaa
open Go.RowKit
set_option linter.unusedVariables false

/-- some condition was drawn -/
def DrawnC (w : World) (B q : Nat) (e : Ending) (w' : World) : Prop := ∃ x : C11, e = .returned (.agg #[.int .i64 x.Op, .int .i64 x.L.K, .string x.L.S, .int .i64 x.L.V.K, .int .i64 x.L.V.N, .string x.L.V.S, .int .i64 x.R.K, .string x.R.S, .int .i64 x.R.V.K, .int .i64 x.R.V.N, .string x.R.V.S]) ∧ x.small ∧ Cur B w' q ∧ w.grownBy w' (some q)

set_option maxRecDepth 100000 in
set_option maxHeartbeats 1600000 in
theorem l7Arg_any (B q : Nat) (w : World) (hc : Cur B w q) :
    Calls Try.prog 159 #[.pointer (some ⟨q, 0, none⟩)] w (DrawnA w B q) := by
  have hq := hc.lt
  have hB := hc.1
  go_enter Try.func159, Try.ntmps159
  go_wp2_with fail
  have c0 : Cur B (w.alloc (.cells #[.int .i64 0, .string ⟨#[]⟩, .int .i64 0, .int .i64 0, .string ⟨#[]⟩] 157)) q := hc.keep (World.grownBy_alloc w _ none) (by simp) (by simp)
  have hR := boxk_new w #[.int .i64 0, .string ⟨#[]⟩, .int .i64 0, .int .i64 0, .string ⟨#[]⟩] 157
  have G0 := grown_alloc w (.cells #[.int .i64 0, .string ⟨#[]⟩, .int .i64 0, .int .i64 0, .string ⟨#[]⟩] 157) q
  refine (l1Once_any B q 3 _ c0 (by omega) (by omega)).mono ?_
  rintro e w1 ⟨bb, rfl, c1, g1⟩
  have HR := hide (box_grown hR g1 (by omega))
  have G1 : w.grownBy w1 (some q) := grown_trans G0 g1
  have z1 := G1.size
  have l1 := (Array.getElem?_eq_some_iff.1 HR.out).1
  clear g1 hR G0 c0
  cases bb
  · go_wp2_with fail
    refine (l1Str_any B q w1.heap.size [⟨#[88]⟩, ⟨#[89]⟩] 2 _ (c1.keep (World.grownBy_alloc w1 _ none) (by simp) (by simp)) (by decide) (by decide) (by omega) (cells_strs w1 9 _)).mono ?_
    rintro e w2 ⟨s, rfl, hx, c2, g2⟩
    have HS : Hid (s.size ≤ 1048576) := by
      unfold Hid
      simp only [List.mem_cons, List.not_mem_nil, or_false] at hx
      rcases hx with rfl | rfl <;> decide
    have HR2 := hide (box_grown (box_alloc HR.out _) g2 (by omega))
    have G2 : w.grownBy w2 (some q) := grown_trans (grown_trans G1 (grown_alloc w1 _ q)) g2
    clear hx g2 HR c1 G1
    go_wp2_with fail
    refine (l6Var_any s _).mono ?_
    rintro e w3 ⟨rfl, hb3⟩
    have HR3 := hide (box_step HR2.out hb3)
    have G3 : w.grownBy w3 (some q) := grown_trans G2 (below_grown hb3)
    have c3 : Cur B w3 q := c2.keep (⟨hb3.os, hb3.tape, hb3.output, hb3.size, fun i hi _ => hb3.block i hi⟩ : w2.grownBy w3 none) (by simp) (by simp)
    clear hb3 HR2 c2 G2
    have r0 := boxk_cell HR3.out 0 _ rfl
    have f0 := boxk_frozen HR3.out 0
    have r1 := boxk_cell HR3.out 1 _ rfl
    have f1 := boxk_frozen HR3.out 1
    have r2 := boxk_cell HR3.out 2 _ rfl
    have f2 := boxk_frozen HR3.out 2
    have r3 := boxk_cell HR3.out 3 _ rfl
    have f3 := boxk_frozen HR3.out 3
    have r4 := boxk_cell HR3.out 4 _ rfl
    have f4 := boxk_frozen HR3.out 4
    go_wp2
    refine box5_post HR3.out (fun w4 h4 gr => ?_)
    clear r0 f0 r1 f1 r2 f2 r3 f3 r4 f4
    have a0 := boxk_cell h4 0 _ rfl
    have a1 := boxk_cell h4 1 _ rfl
    have a2 := boxk_cell h4 2 _ rfl
    have a3 := boxk_cell h4 3 _ rfl
    have a4 := boxk_cell h4 4 _ rfl
    refine bodyPost_ret (v := .agg #[.int .i64 1, .string s, .int .i64 0, .int .i64 0, .string ⟨#[]⟩]) (by simp [results, Try.results159, go_sem, a0, a1, a2, a3, a4]) rfl ⟨⟨1, s, ⟨0, 0, ⟨#[]⟩⟩⟩, rfl, ⟨HS.out, emp_small⟩, c3.keep gr (by simp; omega) (by intro k hk; cases hk; omega), grown_more G3 gr (by intro k hk; cases hk; omega)⟩
  · go_wp2_with fail
    refine (l3Small_any B q _ c1).mono ?_
    rintro e w2 ⟨v, rfl, hv, c2, g2⟩
    have HR2 := hide (box_grown HR.out g2 (by omega))
    have G2 : w.grownBy w2 (some q) := grown_trans G1 g2
    clear g2 HR c1 G1
    go_wp2_with fail
    refine (l6Val_any v _).mono ?_
    rintro e w3 ⟨rfl, hb3⟩
    have HR3 := hide (box_step HR2.out hb3)
    have G3 : w.grownBy w3 (some q) := grown_trans G2 (below_grown hb3)
    have c3 : Cur B w3 q := c2.keep (⟨hb3.os, hb3.tape, hb3.output, hb3.size, fun i hi _ => hb3.block i hi⟩ : w2.grownBy w3 none) (by simp) (by simp)
    clear hb3 HR2 c2 G2
    have r0 := boxk_cell HR3.out 0 _ rfl
    have f0 := boxk_frozen HR3.out 0
    have r1 := boxk_cell HR3.out 1 _ rfl
    have f1 := boxk_frozen HR3.out 1
    have r2 := boxk_cell HR3.out 2 _ rfl
    have f2 := boxk_frozen HR3.out 2
    have r3 := boxk_cell HR3.out 3 _ rfl
    have f3 := boxk_frozen HR3.out 3
    have r4 := boxk_cell HR3.out 4 _ rfl
    have f4 := boxk_frozen HR3.out 4
    go_wp2
    refine box5_post HR3.out (fun w4 h4 gr => ?_)
    clear r0 f0 r1 f1 r2 f2 r3 f3 r4 f4
    have a0 := boxk_cell h4 0 _ rfl
    have a1 := boxk_cell h4 1 _ rfl
    have a2 := boxk_cell h4 2 _ rfl
    have a3 := boxk_cell h4 3 _ rfl
    have a4 := boxk_cell h4 4 _ rfl
    refine bodyPost_ret (v := .agg #[.int .i64 2, .string ⟨#[]⟩, .int .i64 v.K, .int .i64 v.N, .string v.S]) (by simp [results, Try.results159, go_sem, a0, a1, a2, a3, a4]) rfl ⟨⟨2, ⟨#[]⟩, v⟩, rfl, ⟨emp_small, by show v.S.size ≤ 1048576; omega⟩, c3.keep gr (by simp; omega) (by intro k hk; cases hk; omega), grown_more G3 gr (by intro k hk; cases hk; omega)⟩

set_option maxRecDepth 100000 in
set_option maxHeartbeats 1600000 in
theorem l7Draw_any (B q : Nat) (w : World) (hc : Cur B w q) :
    Calls Try.prog 142 #[.pointer (some ⟨q, 0, none⟩)] w (DrawnC w B q) := by
  have hq := hc.lt
  have hB := hc.1
  go_enter Try.func142, Try.ntmps142
  go_wp2_with fail
  have c0 : Cur B (w.alloc (.cells #[.int .i64 0, .int .i64 0, .string ⟨#[]⟩, .int .i64 0, .int .i64 0, .string ⟨#[]⟩, .int .i64 0, .string ⟨#[]⟩, .int .i64 0, .int .i64 0, .string ⟨#[]⟩] 162)) q := hc.keep (World.grownBy_alloc w _ none) (by simp) (by simp)
  have hR := boxk_new w #[.int .i64 0, .int .i64 0, .string ⟨#[]⟩, .int .i64 0, .int .i64 0, .string ⟨#[]⟩, .int .i64 0, .string ⟨#[]⟩, .int .i64 0, .int .i64 0, .string ⟨#[]⟩] 162
  have G0 := grown_alloc w (.cells #[.int .i64 0, .int .i64 0, .string ⟨#[]⟩, .int .i64 0, .int .i64 0, .string ⟨#[]⟩, .int .i64 0, .string ⟨#[]⟩, .int .i64 0, .int .i64 0, .string ⟨#[]⟩] 162) q
  refine (l1Below_any B q 3 _ c0 (by omega) (by omega)).mono ?_
  rintro e w1 ⟨n, rfl, n0, n1, c1, g1⟩
  have HR := hide (box_grown hR g1 (by omega))
  have G1 : w.grownBy w1 (some q) := grown_trans G0 g1
  clear g1 hR G0 c0
  go_wp2_with fail
  refine (l7Arg_any B q _ c1).mono ?_
  rintro e w2 ⟨x, rfl, hx, c2, g2⟩
  have HR2 := hide (box_grown HR.out g2 (by omega))
  have G2 : w.grownBy w2 (some q) := grown_trans G1 g2
  clear g2 HR c1 G1
  go_wp2_with fail
  refine (l7Arg_any B q _ c2).mono ?_
  rintro e w3 ⟨y, rfl, hy, c3, g3⟩
  have HR3 := hide (box_grown HR2.out g3 (by omega))
  have G3 : w.grownBy w3 (some q) := grown_trans G2 g3
  have l3 := (Array.getElem?_eq_some_iff.1 HR3.out).1
  clear g3 HR2 c2 G2
  have r0 := boxk_cell HR3.out 0 _ rfl
  have f0 := boxk_frozen HR3.out 0
  have r1 := boxk_cell HR3.out 1 _ rfl
  have f1 := boxk_frozen HR3.out 1
  have r2 := boxk_cell HR3.out 2 _ rfl
  have f2 := boxk_frozen HR3.out 2
  have r3 := boxk_cell HR3.out 3 _ rfl
  have f3 := boxk_frozen HR3.out 3
  have r4 := boxk_cell HR3.out 4 _ rfl
  have f4 := boxk_frozen HR3.out 4
  have r5 := boxk_cell HR3.out 5 _ rfl
  have f5 := boxk_frozen HR3.out 5
  have r6 := boxk_cell HR3.out 6 _ rfl
  have f6 := boxk_frozen HR3.out 6
  have r7 := boxk_cell HR3.out 7 _ rfl
  have f7 := boxk_frozen HR3.out 7
  have r8 := boxk_cell HR3.out 8 _ rfl
  have f8 := boxk_frozen HR3.out 8
  have r9 := boxk_cell HR3.out 9 _ rfl
  have f9 := boxk_frozen HR3.out 9
  have r10 := boxk_cell HR3.out 10 _ rfl
  have f10 := boxk_frozen HR3.out 10
  go_wp2
  refine box11_post HR3.out (fun w4 h4 gr => ?_)
  clear r0 f0 r1 f1 r2 f2 r3 f3 r4 f4 r5 f5 r6 f6 r7 f7 r8 f8 r9 f9 r10 f10
  have a0 := boxk_cell h4 0 _ rfl
  have a1 := boxk_cell h4 1 _ rfl
  have a2 := boxk_cell h4 2 _ rfl
  have a3 := boxk_cell h4 3 _ rfl
  have a4 := boxk_cell h4 4 _ rfl
  have a5 := boxk_cell h4 5 _ rfl
  have a6 := boxk_cell h4 6 _ rfl
  have a7 := boxk_cell h4 7 _ rfl
  have a8 := boxk_cell h4 8 _ rfl
  have a9 := boxk_cell h4 9 _ rfl
  have a10 := boxk_cell h4 10 _ rfl
  refine bodyPost_ret (v := .agg #[.int .i64 (1 + n), .int .i64 x.K, .string x.S, .int .i64 x.V.K, .int .i64 x.V.N, .string x.V.S, .int .i64 y.K, .string y.S, .int .i64 y.V.K, .int .i64 y.V.N, .string y.V.S]) (by simp [results, Try.results142, go_sem, a0, a1, a2, a3, a4, a5, a6, a7, a8, a9, a10]) rfl ⟨⟨1 + n, x, y⟩, rfl, ⟨hx, hy⟩, c3.keep gr (by simp; omega) (by intro k hk; cases hk; omega), grown_more G3 gr (by intro k hk; cases hk; omega)⟩
end Go.Proofs.Ytfgigcdfmkfkjaa
/-
  The contracts of the laws' own helpers on Exprs: to copies, sz counts off, eq finds one the same as itself.
-/
namespace Go.Proofs.Ytfgigcdfmkfkjaa
open Go.RowKit
set_option linter.unusedVariables false

theorem Try.info206 : (Try.prog.info? 206).map (fun i => (i.zero, i.size, i.bytes)) = some (some (.agg #[.string ⟨#[]⟩, .int .i64 0, .string ⟨#[]⟩, .int .i64 0, .int .i64 0, .string ⟨#[]⟩, .int .i64 0, .string ⟨#[]⟩, .int .i64 0, .int .i64 0, .string ⟨#[]⟩]), 11, 128) := by kernel_rfl

set_option maxRecDepth 100000 in
set_option maxHeartbeats 3200000 in
theorem toExpr_any (Op : ByteArray) (LK : Int) (LS : ByteArray) (LVK : Int) (LVN : Int) (LVS : ByteArray) (RK : Int) (RS : ByteArray) (RVK : Int) (RVN : Int) (RVS : ByteArray) (w : World) :
    Calls Try.prog 152 #[.agg #[.string Op, .int .i64 LK, .string LS, .int .i64 LVK, .int .i64 LVN, .string LVS, .int .i64 RK, .string RS, .int .i64 RVK, .int .i64 RVN, .string RVS]] w fun e w' => e = .returned (.agg #[.string Op, .int .i64 LK, .string LS, .int .i64 LVK, .int .i64 LVN, .string LVS, .int .i64 RK, .string RS, .int .i64 RVK, .int .i64 RVN, .string RVS]) ∧ Below w.heap.size w w' := by
  go_enter Try.func152, Try.ntmps152
  go_wp2_with fail
  obtain ⟨hA, hR, hX, b2⟩ := boxes3 w #[.string Op, .int .i64 LK, .string LS, .int .i64 LVK, .int .i64 LVN, .string LVS, .int .i64 RK, .string RS, .int .i64 RVK, .int .i64 RVN, .string RVS] #[.string ⟨#[]⟩, .int .i64 0, .string ⟨#[]⟩, .int .i64 0, .int .i64 0, .string ⟨#[]⟩, .int .i64 0, .string ⟨#[]⟩, .int .i64 0, .int .i64 0, .string ⟨#[]⟩] #[.string Op, .int .i64 0, .string ⟨#[]⟩, .int .i64 0, .int .i64 0, .string ⟨#[]⟩, .int .i64 0, .string ⟨#[]⟩, .int .i64 0, .int .i64 0, .string ⟨#[]⟩] 219 206 206
  refine (toArg_any LK LS LVK LVN LVS _).mono ?_
  rintro e w1 ⟨rfl, hb⟩
  have HA := hide (box_below hA hb (by simp; omega))
  have HR := hide (box_below hR hb (by simp))
  have HX := hide (box_below hX hb (by simp))
  have hB : Below w.heap.size w w1 := b2.trans (hb.mono b2.size)
  clear hb hR hX hA b2
  have x0 := boxk_cell HX.out 0 _ rfl
  have xf0 := boxk_frozen HX.out 0
  have x1 := boxk_cell HX.out 1 _ rfl
  have xf1 := boxk_frozen HX.out 1
  have x2 := boxk_cell HX.out 2 _ rfl
  have xf2 := boxk_frozen HX.out 2
  have x3 := boxk_cell HX.out 3 _ rfl
  have xf3 := boxk_frozen HX.out 3
  have x4 := boxk_cell HX.out 4 _ rfl
  have xf4 := boxk_frozen HX.out 4
  have x5 := boxk_cell HX.out 5 _ rfl
  have xf5 := boxk_frozen HX.out 5
  have x6 := boxk_cell HX.out 6 _ rfl
  have xf6 := boxk_frozen HX.out 6
  have x7 := boxk_cell HX.out 7 _ rfl
  have xf7 := boxk_frozen HX.out 7
  have x8 := boxk_cell HX.out 8 _ rfl
  have xf8 := boxk_frozen HX.out 8
  have x9 := boxk_cell HX.out 9 _ rfl
  have xf9 := boxk_frozen HX.out 9
  have x10 := boxk_cell HX.out 10 _ rfl
  have xf10 := boxk_frozen HX.out 10
  have a6 := boxk_cell HA.out 6 _ rfl
  have a7 := boxk_cell HA.out 7 _ rfl
  have a8 := boxk_cell HA.out 8 _ rfl
  have a9 := boxk_cell HA.out 9 _ rfl
  have a10 := boxk_cell HA.out 10 _ rfl
  have HL := hide (box11_setL HX.out (.int .i64 LK) (.string LS) (.int .i64 LVK) (.int .i64 LVN) (.string LVS))
  have HRs := hide (box_gr HR.out HL.out.2 (by omega))
  have HBs := hide (below_set hB HL.out.2 (by omega))
  have HXs := hide HL.out.1
  go_wp2_with fail
  refine (toArg_any RK RS RVK RVN RVS _).mono ?_
  clear x0 xf0 x1 xf1 x2 xf2 x3 xf3 x4 xf4 x5 xf5 x6 xf6 x7 xf7 x8 xf8 x9 xf9 x10 xf10 a6 a7 a8 a9 a10 HX HR HA hB HL
  generalize (((((w1.setCell ⟨w.heap.size + 1 + 1, 1, none⟩ (.int .i64 LK)).setCell ⟨w.heap.size + 1 + 1, 2, none⟩ (.string LS)).setCell ⟨w.heap.size + 1 + 1, 3, none⟩ (.int .i64 LVK)).setCell ⟨w.heap.size + 1 + 1, 4, none⟩ (.int .i64 LVN)).setCell ⟨w.heap.size + 1 + 1, 5, none⟩ (.string LVS)) = w2 at HRs HBs HXs
  rintro e w3 ⟨rfl, hb⟩
  have HR3 := hide (box_step HRs.out hb)
  have HX3 := hide (box_step HXs.out hb)
  have hB3 : Below w.heap.size w w3 := HBs.out.trans (hb.mono HBs.out.size)
  clear hb HRs HBs HXs
  have x0 := boxk_cell HX3.out 0 _ rfl
  have xf0 := boxk_frozen HX3.out 0
  have x1 := boxk_cell HX3.out 1 _ rfl
  have xf1 := boxk_frozen HX3.out 1
  have x2 := boxk_cell HX3.out 2 _ rfl
  have xf2 := boxk_frozen HX3.out 2
  have x3 := boxk_cell HX3.out 3 _ rfl
  have xf3 := boxk_frozen HX3.out 3
  have x4 := boxk_cell HX3.out 4 _ rfl
  have xf4 := boxk_frozen HX3.out 4
  have x5 := boxk_cell HX3.out 5 _ rfl
  have xf5 := boxk_frozen HX3.out 5
  have x6 := boxk_cell HX3.out 6 _ rfl
  have xf6 := boxk_frozen HX3.out 6
  have x7 := boxk_cell HX3.out 7 _ rfl
  have xf7 := boxk_frozen HX3.out 7
  have x8 := boxk_cell HX3.out 8 _ rfl
  have xf8 := boxk_frozen HX3.out 8
  have x9 := boxk_cell HX3.out 9 _ rfl
  have xf9 := boxk_frozen HX3.out 9
  have x10 := boxk_cell HX3.out 10 _ rfl
  have xf10 := boxk_frozen HX3.out 10
  have HX6 := hide (box11_setR HX3.out (.int .i64 RK) (.string RS) (.int .i64 RVK) (.int .i64 RVN) (.string RVS))
  have HR4 := hide (box_gr HR3.out HX6.out.2 (by omega))
  have HB4 := hide (below_set hB3 HX6.out.2 (by omega))
  have HX7 := hide HX6.out.1
  go_upto_region 5 with fail
  clear x0 xf0 x1 xf1 x2 xf2 x3 xf3 x4 xf4 x5 xf5 x6 xf6 x7 xf7 x8 xf8 x9 xf9 x10 xf10 HX6 HX3 HR3 hB3
  generalize (((((w3.setCell ⟨w.heap.size + 1 + 1, 6, none⟩ (.int .i64 RK)).setCell ⟨w.heap.size + 1 + 1, 7, none⟩ (.string RS)).setCell ⟨w.heap.size + 1 + 1, 8, none⟩ (.int .i64 RVK)).setCell ⟨w.heap.size + 1 + 1, 9, none⟩ (.int .i64 RVN)).setCell ⟨w.heap.size + 1 + 1, 10, none⟩ (.string RVS)) = w5 at HR4 HB4 HX7
  have x0 := boxk_cell HX7.out 0 _ rfl
  have r0 := boxk_cell HR4.out 0 _ rfl
  have rf0 := boxk_frozen HR4.out 0
  have x1 := boxk_cell HX7.out 1 _ rfl
  have r1 := boxk_cell HR4.out 1 _ rfl
  have rf1 := boxk_frozen HR4.out 1
  have x2 := boxk_cell HX7.out 2 _ rfl
  have r2 := boxk_cell HR4.out 2 _ rfl
  have rf2 := boxk_frozen HR4.out 2
  have x3 := boxk_cell HX7.out 3 _ rfl
  have r3 := boxk_cell HR4.out 3 _ rfl
  have rf3 := boxk_frozen HR4.out 3
  have x4 := boxk_cell HX7.out 4 _ rfl
  have r4 := boxk_cell HR4.out 4 _ rfl
  have rf4 := boxk_frozen HR4.out 4
  have x5 := boxk_cell HX7.out 5 _ rfl
  have r5 := boxk_cell HR4.out 5 _ rfl
  have rf5 := boxk_frozen HR4.out 5
  have x6 := boxk_cell HX7.out 6 _ rfl
  have r6 := boxk_cell HR4.out 6 _ rfl
  have rf6 := boxk_frozen HR4.out 6
  have x7 := boxk_cell HX7.out 7 _ rfl
  have r7 := boxk_cell HR4.out 7 _ rfl
  have rf7 := boxk_frozen HR4.out 7
  have x8 := boxk_cell HX7.out 8 _ rfl
  have r8 := boxk_cell HR4.out 8 _ rfl
  have rf8 := boxk_frozen HR4.out 8
  have x9 := boxk_cell HX7.out 9 _ rfl
  have r9 := boxk_cell HR4.out 9 _ rfl
  have rf9 := boxk_frozen HR4.out 9
  have x10 := boxk_cell HX7.out 10 _ rfl
  have r10 := boxk_cell HR4.out 10 _ rfl
  have rf10 := boxk_frozen HR4.out 10
  go_wp2
  refine box11_post HR4.out (fun w4 h4 gr => ?_)
  clear x0 r0 rf0 x1 r1 rf1 x2 r2 rf2 x3 r3 rf3 x4 r4 rf4 x5 r5 rf5 x6 r6 rf6 x7 r7 rf7 x8 r8 rf8 x9 r9 rf9 x10 r10 rf10
  have c0 := boxk_cell h4 0 _ rfl
  have c1 := boxk_cell h4 1 _ rfl
  have c2 := boxk_cell h4 2 _ rfl
  have c3 := boxk_cell h4 3 _ rfl
  have c4 := boxk_cell h4 4 _ rfl
  have c5 := boxk_cell h4 5 _ rfl
  have c6 := boxk_cell h4 6 _ rfl
  have c7 := boxk_cell h4 7 _ rfl
  have c8 := boxk_cell h4 8 _ rfl
  have c9 := boxk_cell h4 9 _ rfl
  have c10 := boxk_cell h4 10 _ rfl
  exact bodyPost_ret (v := .agg #[.string Op, .int .i64 LK, .string LS, .int .i64 LVK, .int .i64 LVN, .string LVS, .int .i64 RK, .string RS, .int .i64 RVK, .int .i64 RVN, .string RVS]) (by simp [results, Try.results152, go_sem, c0, c1, c2, c3, c4, c5, c6, c7, c8, c9, c10]) rfl ⟨rfl, below_set HB4.out gr (by omega)⟩

set_option maxRecDepth 100000 in
set_option maxHeartbeats 1600000 in
theorem szExpr_any (Op : ByteArray) (LK : Int) (LS : ByteArray) (LVK : Int) (LVN : Int) (LVS : ByteArray) (RK : Int) (RS : ByteArray) (RVK : Int) (RVN : Int) (RVS : ByteArray) (left : Int) (w : World) (so : Op.size ≤ maxLen) (s0 : LS.size ≤ maxLen) (s1 : LVS.size ≤ maxLen) (s2 : RS.size ≤ maxLen) (s3 : RVS.size ≤ maxLen) (h0 : 0 ≤ left) (h1 : left ≤ 1048576) :
    Calls Try.prog 150 #[.agg #[.string Op, .int .i64 LK, .string LS, .int .i64 LVK, .int .i64 LVN, .string LVS, .int .i64 RK, .string RS, .int .i64 RVK, .int .i64 RVN, .string RVS], .int .i64 left] w fun e w' =>
      (∃ r, e = .returned (.int .i64 r) ∧ (r = -1 ∨ (0 ≤ r ∧ r + (Op.size : Int) + (LS.size : Int) + (LVS.size : Int) + (RS.size : Int) + (RVS.size : Int) ≤ left))) ∧ Below w.heap.size w w' := by
  unfold maxLen at so
  by_cases hz : left - (Op.size : Int) < 0
  · go_enter Try.func150, Try.ntmps150
    go_wp2
    go_ret
    exact ⟨⟨-1, rfl, .inl rfl⟩, by go_grown⟩
  · go_enter Try.func150, Try.ntmps150
    go_wp2_with fail
    have b0 := below_al w (.cells #[.string Op, .int .i64 LK, .string LS, .int .i64 LVK, .int .i64 LVN, .string LVS, .int .i64 RK, .string RS, .int .i64 RVK, .int .i64 RVN, .string RVS] 219)
    have hA := boxk_new w #[.string Op, .int .i64 LK, .string LS, .int .i64 LVK, .int .i64 LVN, .string LVS, .int .i64 RK, .string RS, .int .i64 RVK, .int .i64 RVN, .string RVS] 219
    refine (szArg_any LK LS LVK LVN LVS (left - Op.size) _ s0 s1 (by omega) (by omega)).mono ?_
    rintro e w1 ⟨⟨r, rfl, hr⟩, hb1⟩
    have HA1 := hide (box_below hA hb1 (by simp))
    have hB1 : Below w.heap.size w w1 := b0.trans (hb1.mono b0.size)
    clear hb1 b0 hA
    rcases hr with rfl | ⟨h2, h3⟩
    · go_wp2
      go_ret
      exact ⟨⟨-1, rfl, .inl rfl⟩, hB1⟩
    · have H3 := hide h3
      have h4 : r ≤ 1048576 := by omega
      clear h3
      have a6 := boxk_cell HA1.out 6 _ rfl
      have a7 := boxk_cell HA1.out 7 _ rfl
      have a8 := boxk_cell HA1.out 8 _ rfl
      have a9 := boxk_cell HA1.out 9 _ rfl
      have a10 := boxk_cell HA1.out 10 _ rfl
      go_wp2_with fail
      refine (szArg_any RK RS RVK RVN RVS r _ s2 s3 h2 h4).mono ?_
      rintro e w2 ⟨⟨r2, rfl, hr2⟩, hb2⟩
      have hB2 : Below w.heap.size w w2 := hB1.trans (hb2.mono hB1.size)
      clear hb2 hB1 HA1 a6 a7 a8 a9 a10
      rcases hr2 with rfl | ⟨h5, h6⟩
      · go_wp2
        go_ret
        exact ⟨⟨-1, rfl, .inl rfl⟩, hB2⟩
      · have H6 := hide h6
        clear h6
        go_wp2
        go_ret
        have := H3.out
        have := H6.out
        exact ⟨⟨_, rfl, .inr ⟨h5, by omega⟩⟩, hB2⟩

set_option maxRecDepth 100000 in
set_option maxHeartbeats 1600000 in
theorem eqExpr_same (Op : ByteArray) (LK : Int) (LS : ByteArray) (LVK : Int) (LVN : Int) (LVS : ByteArray) (RK : Int) (RS : ByteArray) (RVK : Int) (RVN : Int) (RVS : ByteArray) (w : World) :
    Calls Try.prog 155 #[.agg #[.string Op, .int .i64 LK, .string LS, .int .i64 LVK, .int .i64 LVN, .string LVS, .int .i64 RK, .string RS, .int .i64 RVK, .int .i64 RVN, .string RVS], .agg #[.string Op, .int .i64 LK, .string LS, .int .i64 LVK, .int .i64 LVN, .string LVS, .int .i64 RK, .string RS, .int .i64 RVK, .int .i64 RVN, .string RVS]] w fun e w' => e = .returned (.bool true) ∧ Below w.heap.size w w' := by
  have kO : (Op.toList == Op.toList) = true := by simp
  go_enter Try.func155, Try.ntmps155
  go_wp2_with fail
  obtain ⟨hA, hD, b1⟩ := boxes2 w #[.string Op, .int .i64 LK, .string LS, .int .i64 LVK, .int .i64 LVN, .string LVS, .int .i64 RK, .string RS, .int .i64 RVK, .int .i64 RVN, .string RVS] #[.string Op, .int .i64 LK, .string LS, .int .i64 LVK, .int .i64 LVN, .string LVS, .int .i64 RK, .string RS, .int .i64 RVK, .int .i64 RVN, .string RVS] 206 206
  refine (eqArg_same LK LS LVK LVN LVS _).mono ?_
  rintro e w1 ⟨rfl, hb⟩
  have HA := hide (box_below hA hb (by simp; omega))
  have HD := hide (box_below hD hb (by simp))
  have hB : Below w.heap.size w w1 := b1.trans (hb.mono b1.size)
  clear hb hA hD b1
  have a6 := boxk_cell HA.out 6 _ rfl
  have d6 := boxk_cell HD.out 6 _ rfl
  have a7 := boxk_cell HA.out 7 _ rfl
  have d7 := boxk_cell HD.out 7 _ rfl
  have a8 := boxk_cell HA.out 8 _ rfl
  have d8 := boxk_cell HD.out 8 _ rfl
  have a9 := boxk_cell HA.out 9 _ rfl
  have d9 := boxk_cell HD.out 9 _ rfl
  have a10 := boxk_cell HA.out 10 _ rfl
  have d10 := boxk_cell HD.out 10 _ rfl
  go_wp2_with fail
  refine (eqArg_same RK RS RVK RVN RVS _).mono ?_
  rintro e w2 ⟨rfl, hb⟩
  have hB2 : Below w.heap.size w w2 := hB.trans (hb.mono hB.size)
  go_wp2
  go_ret
  exact ⟨rfl, hB2⟩
end Go.Proofs.Ytfgigcdfmkfkjaa
/-
  Terms that are drawn.
-/
namespace Go.Proofs.Ytfgigcdfmkfkjaa
open Go.RowKit
set_option linter.unusedVariables false

theorem src_row (W : World) (cs : Array Value) (T : TypeId) : ∀ j u, cs.toList[j]? = some u → (W.alloc (.cells cs T)).cell? ((⟨W.heap.size, 0, none⟩ : Addr).add j) = some u := by
  intro j u hj
  rw [Addr.add_lit, Nat.zero_add]
  have hb : (W.alloc (.cells cs T)).heap[W.heap.size]? = some (.cells cs T (0, 0)) := by rw [heap_alloc_new]
  rw [cell_of_row _ _ j _ _ (0, 0) hb]
  simpa using hj
theorem one_x (x : X11) : ∀ u ∈ x.cs, u.oneCell' = true := by
  intro u hu
  simp only [X11.cs, List.mem_cons, List.not_mem_nil, or_false] at hu
  rcases hu with rfl | rfl | rfl | rfl | rfl | rfl | rfl | rfl | rfl | rfl | rfl <;> rfl
def DrawnAo (w : World) (B q : Nat) (e : Ending) (w' : World) : Prop := ∃ x : A5, e = .returned (.agg #[.int .i64 x.K, .string x.S, .int .i64 x.V.K, .int .i64 x.V.N, .string x.V.S]) ∧ x.small ∧ (x.K = 2 → True) ∧ Cur B w' q ∧ w.grownBy w' (some q)
theorem l7Arg_ok (B q : Nat) (w : World) (hc : Cur B w q) : Calls Try.prog 159 #[.pointer (some ⟨q, 0, none⟩)] w (DrawnAo w B q) :=
  (l7Arg_any B q w hc).mono fun e w' ⟨x, h1, h2, h3, h4⟩ => ⟨x, h1, h2, fun _ => True.intro, h3, h4⟩
/-- a term lies in a box X on the way, the result's box R is as it was made -/
structure ExAt (w : World) (B q R X : Nat) (W : World) (y : X11) : Prop where
  cur : Cur B W q
  box : W.heap[X]? = some (.cells #[.string y.Op, .int .i64 y.L.K, .string y.L.S, .int .i64 y.L.V.K, .int .i64 y.L.V.N, .string y.L.V.S, .int .i64 y.R.K, .string y.R.S, .int .i64 y.R.V.K, .int .i64 y.R.V.N, .string y.R.V.S] 206 (0, 0))
  res : W.heap[R]? = some (.cells #[.string ⟨#[]⟩, .int .i64 0, .string ⟨#[]⟩, .int .i64 0, .int .i64 0, .string ⟨#[]⟩, .int .i64 0, .string ⟨#[]⟩, .int .i64 0, .int .i64 0, .string ⟨#[]⟩] 206 (0, 0))
  gr : w.grownBy W (some q)
  small : y.small
theorem ExAt.draws {w W W' : World} {B q R X : Nat} {y : X11} (h : ExAt w B q R X W y) (hX : X ≠ q) (hR : R ≠ q) (c : Cur B W' q) (g : W.grownBy W' (some q)) : ExAt w B q R X W' y :=
  ⟨c, box_grown h.box g hX, box_grown h.res g hR, grown_trans h.gr g, h.small⟩
theorem ExAt.put {w W W' : World} {B q R X : Nat} {y z : X11} (h : ExAt w B q R X W y) (hX : X ≠ q) (hXR : X ≠ R) (hB : B ≤ X) (hw : w.heap.size ≤ X) (g : W.grownBy W' (some X)) (hb : W'.heap[X]? = some (.cells #[.string z.Op, .int .i64 z.L.K, .string z.L.S, .int .i64 z.L.V.K, .int .i64 z.L.V.N, .string z.L.V.S, .int .i64 z.R.K, .string z.R.S, .int .i64 z.R.V.K, .int .i64 z.R.V.N, .string z.R.V.S] 206 (0, 0))) (hs : z.small) : ExAt w B q R X W' z :=
  ⟨h.cur.keep g (by simp; exact hX) (by intro k hk; cases hk; exact hB), hb, box_grown h.res g (fun e => hXR e.symm), grown_more h.gr g (by intro k hk; cases hk; exact hw), hs⟩
theorem ExAt.alloc {w W : World} {B q R X : Nat} {y : X11} (h : ExAt w B q R X W y) (o : Obj) : ExAt w B q R X (W.alloc o) y :=
  ⟨h.cur.keep (World.grownBy_alloc W o none) (by simp) (by simp), box_alloc h.box o, box_alloc h.res o, grown_trans h.gr (grown_alloc W o q), h.small⟩
theorem boxx_set0 {w : World} {q : Nat} {c0 c1 c2 c3 c4 c5 c6 c7 c8 c9 c10 : Value} {T : TypeId} (h : w.heap[q]? = some (.cells #[c0, c1, c2, c3, c4, c5, c6, c7, c8, c9, c10] T (0, 0))) (v : Value) :
    (w.setCell ⟨q, 0, none⟩ v).heap[q]? = some (.cells #[v, c1, c2, c3, c4, c5, c6, c7, c8, c9, c10] T (0, 0)) ∧ w.grownBy (w.setCell ⟨q, 0, none⟩ v) (some q) := boxk_set h 0 v
def DrawnX (w : World) (B q : Nat) (e : Ending) (w' : World) : Prop := ∃ x : X11, e = .returned (.agg #[.string x.Op, .int .i64 x.L.K, .string x.L.S, .int .i64 x.L.V.K, .int .i64 x.L.V.N, .string x.L.V.S, .int .i64 x.R.K, .string x.R.S, .int .i64 x.R.V.K, .int .i64 x.R.V.N, .string x.R.V.S]) ∧ x.small ∧ (x.L.K = 2 → True) ∧ Cur B w' q ∧ w.grownBy w' (some q)

set_option maxRecDepth 100000 in
set_option maxHeartbeats 6400000 in
theorem l8Expr_any (B q : Nat) (w : World) (hc : Cur B w q) :
    Calls Try.prog 163 #[.pointer (some ⟨q, 0, none⟩)] w (DrawnX w B q) := by
  have hq := hc.lt
  have hB := hc.1
  go_enter Try.func163, Try.ntmps163
  go_wp2_with fail
  have c0 : Cur B (w.alloc (.cells #[.string ⟨#[]⟩, .int .i64 0, .string ⟨#[]⟩, .int .i64 0, .int .i64 0, .string ⟨#[]⟩, .int .i64 0, .string ⟨#[]⟩, .int .i64 0, .int .i64 0, .string ⟨#[]⟩] 206)) q := hc.keep (World.grownBy_alloc w _ none) (by simp) (by simp)
  have hR := boxk_new w #[.string ⟨#[]⟩, .int .i64 0, .string ⟨#[]⟩, .int .i64 0, .int .i64 0, .string ⟨#[]⟩, .int .i64 0, .string ⟨#[]⟩, .int .i64 0, .int .i64 0, .string ⟨#[]⟩] 206
  have G0 := grown_alloc w (.cells #[.string ⟨#[]⟩, .int .i64 0, .string ⟨#[]⟩, .int .i64 0, .int .i64 0, .string ⟨#[]⟩, .int .i64 0, .string ⟨#[]⟩, .int .i64 0, .int .i64 0, .string ⟨#[]⟩] 206) q
  refine (l7Arg_ok B q _ c0).mono ?_
  rintro e w1 ⟨l, rfl, hl, hlo, c1, g1⟩
  have HR := hide (box_grown hR g1 (by omega))
  have G1 : w.grownBy w1 (some q) := grown_trans G0 g1
  have HLo := hide hlo
  have z1 := G1.size
  have l1 := (Array.getElem?_eq_some_iff.1 HR.out).1
  have hqX : w1.heap.size ≠ q := by have := c1.lt; omega
  have hRX : w1.heap.size ≠ w.heap.size := by omega
  have hRq : w.heap.size ≠ q := by omega
  have hBX : B ≤ w1.heap.size := by omega
  have D0 : ExAt w B q w.heap.size w1.heap.size (w1.alloc (.cells #[.string ⟨#[]⟩, .int .i64 l.K, .string l.S, .int .i64 l.V.K, .int .i64 l.V.N, .string l.V.S, .int .i64 0, .string ⟨#[]⟩, .int .i64 0, .int .i64 0, .string ⟨#[]⟩] 206)) ⟨⟨#[]⟩, l, A5.zero⟩ :=
    ⟨c1.keep (World.grownBy_alloc w1 _ none) (by simp) (by simp), boxk_new w1 _ _, box_old HR.out l1 _, grown_trans G1 (grown_alloc w1 _ q), ⟨emp_small, hl, emp_small, emp_small⟩⟩
  clear g1 hR G0 c0 HR G1 c1 hc hlo
  go_wp2_with fail
  generalize w1.alloc (.cells #[.string ⟨#[]⟩, .int .i64 l.K, .string l.S, .int .i64 l.V.K, .int .i64 l.V.N, .string l.V.S, .int .i64 0, .string ⟨#[]⟩, .int .i64 0, .int .i64 0, .string ⟨#[]⟩] 206) = w2 at D0
  refine (l1Once_any B q 4 _ D0.cur (by omega) (by omega)).mono ?_
  rintro e w3 ⟨bb, rfl, c3, g3⟩
  have D3 := hide (D0.draws hqX hRq c3 g3)
  clear D0 c3 g3
  cases bb
  · obtain ⟨y, hy⟩ : ∃ y : X11, y = ⟨⟨#[]⟩, l, A5.zero⟩ := ⟨_, rfl⟩
    have HY : Hid (y.L.K = 2 → True) := fun _ => True.intro
    rw [← hy] at D3
    clear hy
    have l5 := (Array.getElem?_eq_some_iff.1 D3.out.res).1
    have a0 := boxk_cell D3.out.box 0 _ rfl
    have a1 := boxk_cell D3.out.box 1 _ rfl
    have a2 := boxk_cell D3.out.box 2 _ rfl
    have a3 := boxk_cell D3.out.box 3 _ rfl
    have a4 := boxk_cell D3.out.box 4 _ rfl
    have a5 := boxk_cell D3.out.box 5 _ rfl
    have a6 := boxk_cell D3.out.box 6 _ rfl
    have a7 := boxk_cell D3.out.box 7 _ rfl
    have a8 := boxk_cell D3.out.box 8 _ rfl
    have a9 := boxk_cell D3.out.box 9 _ rfl
    have a10 := boxk_cell D3.out.box 10 _ rfl
    have r0 := boxk_cell D3.out.res 0 _ rfl
    have f0 := boxk_frozen D3.out.res 0
    have r1 := boxk_cell D3.out.res 1 _ rfl
    have f1 := boxk_frozen D3.out.res 1
    have r2 := boxk_cell D3.out.res 2 _ rfl
    have f2 := boxk_frozen D3.out.res 2
    have r3 := boxk_cell D3.out.res 3 _ rfl
    have f3 := boxk_frozen D3.out.res 3
    have r4 := boxk_cell D3.out.res 4 _ rfl
    have f4 := boxk_frozen D3.out.res 4
    have r5 := boxk_cell D3.out.res 5 _ rfl
    have f5 := boxk_frozen D3.out.res 5
    have r6 := boxk_cell D3.out.res 6 _ rfl
    have f6 := boxk_frozen D3.out.res 6
    have r7 := boxk_cell D3.out.res 7 _ rfl
    have f7 := boxk_frozen D3.out.res 7
    have r8 := boxk_cell D3.out.res 8 _ rfl
    have f8 := boxk_frozen D3.out.res 8
    have r9 := boxk_cell D3.out.res 9 _ rfl
    have f9 := boxk_frozen D3.out.res 9
    have r10 := boxk_cell D3.out.res 10 _ rfl
    have f10 := boxk_frozen D3.out.res 10
    go_wp2
    refine box11_post D3.out.res (fun w6 h6 gr => ?_)
    clear a0 r0 f0 a1 r1 f1 a2 r2 f2 a3 r3 f3 a4 r4 f4 a5 r5 f5 a6 r6 f6 a7 r7 f7 a8 r8 f8 a9 r9 f9 a10 r10 f10
    have b0 := boxk_cell h6 0 _ rfl
    have b1 := boxk_cell h6 1 _ rfl
    have b2 := boxk_cell h6 2 _ rfl
    have b3 := boxk_cell h6 3 _ rfl
    have b4 := boxk_cell h6 4 _ rfl
    have b5 := boxk_cell h6 5 _ rfl
    have b6 := boxk_cell h6 6 _ rfl
    have b7 := boxk_cell h6 7 _ rfl
    have b8 := boxk_cell h6 8 _ rfl
    have b9 := boxk_cell h6 9 _ rfl
    have b10 := boxk_cell h6 10 _ rfl
    exact bodyPost_ret (v := .agg #[.string y.Op, .int .i64 y.L.K, .string y.L.S, .int .i64 y.L.V.K, .int .i64 y.L.V.N, .string y.L.V.S, .int .i64 y.R.K, .string y.R.S, .int .i64 y.R.V.K, .int .i64 y.R.V.N, .string y.R.V.S]) (by simp [results, Try.results163, go_sem, b0, b1, b2, b3, b4, b5, b6, b7, b8, b9, b10]) rfl ⟨y, rfl, D3.out.small, HY.out, D3.out.cur.keep gr (by simp; omega) (by intro k hk; cases hk; omega), grown_more D3.out.gr gr (by intro k hk; cases hk; omega)⟩
  · have hz3 := D3.out.gr.size
    have hq3 := D3.out.cur.lt
    go_wp2_with fail
    refine (l1Str_any B q w3.heap.size [⟨#[43]⟩, ⟨#[45]⟩] 2 _ (D3.out.alloc _).cur (by decide) (by decide) (by omega) (cells_strs w3 9 _)).mono ?_
    rintro e w4 ⟨s, rfl, hx, c4, g4⟩
    have HS : Hid (s.size ≤ 1048576) := by
      unfold Hid
      simp only [List.mem_cons, List.not_mem_nil, or_false] at hx
      rcases hx with rfl | rfl <;> decide
    have D4 := hide ((D3.out.alloc (.cells (([⟨#[43]⟩, ⟨#[45]⟩] : List ByteArray).map Value.string).toArray 9)).draws hqX hRq c4 g4)
    clear hx c4 g4 D3
    have r0 := boxk_cell D4.out.box 0 _ rfl
    have f0 := boxk_frozen D4.out.box 0
    have P := boxx_set0 D4.out.box (.string s)
    have D5 := hide (D4.out.put (z := ⟨s, l, A5.zero⟩) hqX hRX hBX z1 P.2 P.1 ⟨HS.out, hl, emp_small, emp_small⟩)
    clear P
    go_wp2_with fail
    clear r0 f0 D4
    generalize (w4.setCell ⟨w1.heap.size, 0, none⟩ (.string s)) = w5 at D5
    refine (l7Arg_ok B q _ D5.out.cur).mono ?_
    rintro e w6 ⟨t, rfl, ht, -, c6, g6⟩
    have D6 := hide (D5.out.draws hqX hRq c6 g6)
    clear c6 g6 D5
    have r6 := boxk_cell D6.out.box 6 _ rfl
    have f6 := boxk_frozen D6.out.box 6
    have r7 := boxk_cell D6.out.box 7 _ rfl
    have f7 := boxk_frozen D6.out.box 7
    have r8 := boxk_cell D6.out.box 8 _ rfl
    have f8 := boxk_frozen D6.out.box 8
    have r9 := boxk_cell D6.out.box 9 _ rfl
    have f9 := boxk_frozen D6.out.box 9
    have r10 := boxk_cell D6.out.box 10 _ rfl
    have f10 := boxk_frozen D6.out.box 10
    have P := box11_setR D6.out.box (.int .i64 t.K) (.string t.S) (.int .i64 t.V.K) (.int .i64 t.V.N) (.string t.V.S)
    have D7 := hide (D6.out.put (z := ⟨s, l, t⟩) hqX hRX hBX z1 P.2 P.1 ⟨HS.out, hl, ht⟩)
    clear P
    go_upto_region 5 with fail
    clear r6 f6 r7 f7 r8 f8 r9 f9 r10 f10 D6
    generalize (((((w6.setCell ⟨w1.heap.size, 6, none⟩ (.int .i64 t.K)).setCell ⟨w1.heap.size, 7, none⟩ (.string t.S)).setCell ⟨w1.heap.size, 8, none⟩ (.int .i64 t.V.K)).setCell ⟨w1.heap.size, 9, none⟩ (.int .i64 t.V.N)).setCell ⟨w1.heap.size, 10, none⟩ (.string t.V.S)) = w7 at D7
    obtain ⟨y, hy⟩ : ∃ y : X11, y = ⟨s, l, t⟩ := ⟨_, rfl⟩
    have HY : Hid (y.L.K = 2 → True) := fun _ => True.intro
    rw [← hy] at D7
    clear hy
    have l5 := (Array.getElem?_eq_some_iff.1 D7.out.res).1
    have a0 := boxk_cell D7.out.box 0 _ rfl
    have a1 := boxk_cell D7.out.box 1 _ rfl
    have a2 := boxk_cell D7.out.box 2 _ rfl
    have a3 := boxk_cell D7.out.box 3 _ rfl
    have a4 := boxk_cell D7.out.box 4 _ rfl
    have a5 := boxk_cell D7.out.box 5 _ rfl
    have a6 := boxk_cell D7.out.box 6 _ rfl
    have a7 := boxk_cell D7.out.box 7 _ rfl
    have a8 := boxk_cell D7.out.box 8 _ rfl
    have a9 := boxk_cell D7.out.box 9 _ rfl
    have a10 := boxk_cell D7.out.box 10 _ rfl
    have r0 := boxk_cell D7.out.res 0 _ rfl
    have f0 := boxk_frozen D7.out.res 0
    have r1 := boxk_cell D7.out.res 1 _ rfl
    have f1 := boxk_frozen D7.out.res 1
    have r2 := boxk_cell D7.out.res 2 _ rfl
    have f2 := boxk_frozen D7.out.res 2
    have r3 := boxk_cell D7.out.res 3 _ rfl
    have f3 := boxk_frozen D7.out.res 3
    have r4 := boxk_cell D7.out.res 4 _ rfl
    have f4 := boxk_frozen D7.out.res 4
    have r5 := boxk_cell D7.out.res 5 _ rfl
    have f5 := boxk_frozen D7.out.res 5
    have r6 := boxk_cell D7.out.res 6 _ rfl
    have f6 := boxk_frozen D7.out.res 6
    have r7 := boxk_cell D7.out.res 7 _ rfl
    have f7 := boxk_frozen D7.out.res 7
    have r8 := boxk_cell D7.out.res 8 _ rfl
    have f8 := boxk_frozen D7.out.res 8
    have r9 := boxk_cell D7.out.res 9 _ rfl
    have f9 := boxk_frozen D7.out.res 9
    have r10 := boxk_cell D7.out.res 10 _ rfl
    have f10 := boxk_frozen D7.out.res 10
    go_wp2
    refine box11_post D7.out.res (fun w6 h6 gr => ?_)
    clear a0 r0 f0 a1 r1 f1 a2 r2 f2 a3 r3 f3 a4 r4 f4 a5 r5 f5 a6 r6 f6 a7 r7 f7 a8 r8 f8 a9 r9 f9 a10 r10 f10
    have b0 := boxk_cell h6 0 _ rfl
    have b1 := boxk_cell h6 1 _ rfl
    have b2 := boxk_cell h6 2 _ rfl
    have b3 := boxk_cell h6 3 _ rfl
    have b4 := boxk_cell h6 4 _ rfl
    have b5 := boxk_cell h6 5 _ rfl
    have b6 := boxk_cell h6 6 _ rfl
    have b7 := boxk_cell h6 7 _ rfl
    have b8 := boxk_cell h6 8 _ rfl
    have b9 := boxk_cell h6 9 _ rfl
    have b10 := boxk_cell h6 10 _ rfl
    exact bodyPost_ret (v := .agg #[.string y.Op, .int .i64 y.L.K, .string y.L.S, .int .i64 y.L.V.K, .int .i64 y.L.V.N, .string y.L.V.S, .int .i64 y.R.K, .string y.R.S, .int .i64 y.R.V.K, .int .i64 y.R.V.N, .string y.R.V.S]) (by simp [results, Try.results163, go_sem, b0, b1, b2, b3, b4, b5, b6, b7, b8, b9, b10]) rfl ⟨y, rfl, D7.out.small, HY.out, D7.out.cur.keep gr (by simp; omega) (by intro k hk; cases hk; omega), grown_more D7.out.gr gr (by intro k hk; cases hk; omega)⟩

end Go.Proofs.Ytfgigcdfmkfkjaa
/-
  A rule being drawn: its block, its three rows, the lists of its patterns and acts, told apart by their types; the cursor.
-/
namespace Go.Proofs.Ytfgigcdfmkfkjaa
open Go.RowKit
set_option linter.unusedVariables false

theorem row_apart {w : World} {base n size p : Nat} {T T' : TypeId} {v : Value} {xs : List Value} {cs : Array Value} (h : w.ownsRow base T size v n xs) (hp : w.heap[p]? = some (.cells cs T' (0, 0))) (hT : T ≠ T') : v.ownBlock ≠ some p := by
  rcases h.2 with h2 | ⟨g, cap, cur, rfl, hb, hg, rest⟩
  · intro e; rw [h2.1] at e; cases e
  · intro e
    simp only [Value.ownBlock, Option.some.injEq] at e
    subst e
    rw [hp] at hg
    simp only [Option.some.injEq, Obj.cells.injEq] at hg
    exact hT hg.2.1.symm
theorem rows_apart {w : World} {b1 b2 n1 n2 k1 k2 : Nat} {T1 T2 : TypeId} {v1 v2 : Value} {x1 x2 : List Value} (h1 : w.ownsRow b1 T1 k1 v1 n1 x1) (h2 : w.ownsRow b2 T2 k2 v2 n2 x2) (hT : T1 ≠ T2) {k : Nat} (hk : v2.ownBlock = some k) : v1.ownBlock ≠ some k := by
  rcases h2.2 with h3 | ⟨g, cap, cur, rfl, hb, hg, rest⟩
  · rw [h3.1] at hk; cases hk
  · simp only [Value.ownBlock, Option.some.injEq] at hk
    subst hk
    exact row_apart h1 hg hT
/-- a row is kept where its block is not the one written -/
theorem row_kept {w w' : World} {base n size : Nat} {T : TypeId} {v : Value} {xs : List Value} {row : Option Nat} (h : w.ownsRow base T size v n xs) (hg : w.grownBy w' row) (hne : ∀ k, row = some k → v.ownBlock ≠ some k) : w'.ownsRow base T size v n xs :=
  ownsRow_sameD h (fun k hk => hg.block k (h.lt k hk).2 (fun e => hne k e.symm hk))
/-- drawn ones are short -/
def PE.tiny (p : PE) : Prop := p.small ∧ p.kd.size ≤ 100 ∧ p.L.length ≤ 8
def QE.tiny (p : QE) : Prop := p.small ∧ p.nm.size ≤ 100 ∧ p.un.size ≤ 100 ∧ p.L.length ≤ 8
theorem sum_most {α : Type} {wt : α → Nat} {c : Nat} : ∀ {L : List α}, (∀ x ∈ L, wt x ≤ c) → (L.map wt).sum ≤ c * L.length
  | [], _ => by simp
  | x :: r, h => by
    have h1 := sum_most (L := r) (fun y hy => h y (List.mem_cons_of_mem _ hy))
    have h2 := h x List.mem_cons_self
    rw [List.map_cons, List.sum_cons, List.length_cons, Nat.mul_add, Nat.mul_one]
    omega
/-- a rule on its way: its block F with the cells cs; rows of patterns, conditions, acts, all above b; each pattern's and act's list too -/
structure RlW (w0 : World) (B q b F : Nat) (cs : Array Value) (vP : Value) (P : List PE) (vC : Value) (C : List C11) (vA : Value) (A : List QE) (W : World) : Prop where
  cur : Cur B W q
  box : W.heap[F]? = some (.cells cs 49 (0, 0))
  res : W.heap[w0.heap.size]? = some (.cells #[.string ⟨#[]⟩, .int .i64 0, .slice none 0 0, .slice none 0 0, .slice none 0 0] 49 (0, 0))
  rP : W.ownsRow b 79 3 vP P.length (rowOf PE.cs P)
  rC : W.ownsRow b 162 11 vC C.length (rowOf C11.cs C)
  rA : W.ownsRow b 166 5 vA A.length (rowOf QE.cs A)
  iP : ∀ p ∈ P, W.ownsRow b 157 5 (.slice p.a p.L.length p.cap) p.L.length (rowOf A5.cs p.L)
  iA : ∀ a ∈ A, W.ownsRow b 206 11 (.slice a.a a.L.length a.cap) a.L.length (rowOf X11.cs a.L)
  gr : w0.grownBy W (some q)
  far : q < w0.heap.size ∧ w0.heap.size < b ∧ w0.heap.size < F
  sP : ∀ p ∈ P, p.tiny
  sC : ∀ c ∈ C, c.small
  sA : ∀ a ∈ A, a.tiny
  bsz : b ≤ W.heap.size
section
variable {w0 W W' : World} {B q b F : Nat} {cs : Array Value} {vP vC vA : Value} {P : List PE} {C : List C11} {A : List QE}
theorem RlW.lt (h : RlW w0 B q b F cs vP P vC C vA A W) : F < W.heap.size := (Array.getElem?_eq_some_iff.1 h.box).1
/-- whatever is written is none of these blocks -/
theorem RlW.kept (h : RlW w0 B q b F cs vP P vC C vA A W) {row : Option Nat} (g : W.grownBy W' row) (c : Cur B W' q) (g0 : w0.grownBy W' (some q)) (hF : row ≠ some F) (hR : row ≠ some w0.heap.size)
    (kP : ∀ k, row = some k → vP.ownBlock ≠ some k) (kC : ∀ k, row = some k → vC.ownBlock ≠ some k) (kA : ∀ k, row = some k → vA.ownBlock ≠ some k)
    (kp : ∀ p ∈ P, ∀ k, row = some k → (Value.slice p.a p.L.length p.cap).ownBlock ≠ some k) (ka : ∀ a ∈ A, ∀ k, row = some k → (Value.slice a.a a.L.length a.cap).ownBlock ≠ some k) :
    RlW w0 B q b F cs vP P vC C vA A W' :=
  ⟨c, by rw [g.block F h.lt (fun e => hF e.symm)]; exact h.box, by rw [g.block _ (Array.getElem?_eq_some_iff.1 h.res).1 (fun e => hR e.symm)]; exact h.res, row_kept h.rP g kP, row_kept h.rC g kC, row_kept h.rA g kA,
    fun p hp => row_kept (h.iP p hp) g (kp p hp), fun a ha => row_kept (h.iA a ha) g (ka a ha), g0, h.far, h.sP, h.sC, h.sA, Nat.le_trans h.bsz g.size⟩
theorem own_ge {w : World} {base n size : Nat} {T : TypeId} {v : Value} {xs : List Value} (h : w.ownsRow base T size v n xs) {k : Nat} (hk : k < base) : v.ownBlock ≠ some k := fun e => by have := (h.lt k e).1; omega
theorem RlW.draws (h : RlW w0 B q b F cs vP P vC C vA A W) (c : Cur B W' q) (g : W.grownBy W' (some q)) : RlW w0 B q b F cs vP P vC C vA A W' := by
  have far := h.far
  refine h.kept g c (grown_trans h.gr g) (by simp; omega) (by simp; omega) (fun k e => ?_) (fun k e => ?_) (fun k e => ?_) (fun p hp k e => ?_) (fun a ha k e => ?_)
  all_goals
    cases e
    first | exact own_ge h.rP (by omega) | exact own_ge h.rC (by omega) | exact own_ge h.rA (by omega) | exact own_ge (h.iP p hp) (by omega) | exact own_ge (h.iA a ha) (by omega)
theorem RlW.alloc (h : RlW w0 B q b F cs vP P vC C vA A W) (o : Obj) : RlW w0 B q b F cs vP P vC C vA A (W.alloc o) :=
  h.kept (World.grownBy_alloc W o none) (h.cur.keep (World.grownBy_alloc W o none) (by simp) (by simp)) (grown_trans h.gr (grown_alloc W o q)) (by simp) (by simp) (fun k e => by cases e) (fun k e => by cases e) (fun k e => by cases e) (fun p hp k e => by cases e) (fun a ha k e => by cases e)
theorem RlW.drew (h : RlW w0 B q b F cs vP P vC C vA A W) : RlW w0 B q b F cs vP P vC C vA A W.drew :=
  ⟨h.cur, h.box, h.res, h.rP, h.rC, h.rA, h.iP, h.iA, ⟨h.gr.os, h.gr.tape, h.gr.output, h.gr.size, h.gr.block⟩, h.far, h.sP, h.sC, h.sA, h.bsz⟩
theorem cur_below {B q : Nat} {w w' : World} (h : Cur B w q) (hb : Below w.heap.size w w') : Cur B w' q := by
  have hq := h.lt
  have hBq := h.1
  obtain ⟨h0, a, cap, code, i, hh, h1, h2, h3, h4⟩ := h
  exact ⟨h0, a, cap, code, i, hh, h1, h2, h3.below (hb.mono (by omega)), by rw [hb.block q hq]; exact h4⟩
theorem grown_below {w w' : World} (hb : Below w.heap.size w w') (row : Option Nat) : w.grownBy w' row := ⟨hb.os, hb.tape, hb.output, hb.size, fun i hi _ => hb.block i hi⟩
theorem RlW.later (h : RlW w0 B q b F cs vP P vC C vA A W) (hb : Below W.heap.size W W') : RlW w0 B q b F cs vP P vC C vA A W' :=
  h.kept (grown_below hb none) (cur_below h.cur hb) (grown_trans h.gr (grown_below hb (some q))) (by simp) (by simp) (fun k e => by cases e) (fun k e => by cases e) (fun k e => by cases e) (fun p hp k e => by cases e) (fun a ha k e => by cases e)
/-- a cell of the rule's block is set -/
theorem RlW.setF (h : RlW w0 B q b F cs vP P vC C vA A W) (i : Nat) (v : Value) : RlW w0 B q b F (cs.setIfInBounds i v) vP P vC C vA A (W.setCell ⟨F, i, none⟩ v) := by
  obtain ⟨hb, gr⟩ := boxk_set h.box i v
  have far := h.far
  have hB := h.cur.1
  exact ⟨h.cur.keep gr (by simp; omega) (fun k hk => by cases hk; omega), hb, by rw [gr.block _ (Array.getElem?_eq_some_iff.1 h.res).1 (by simp; omega)]; exact h.res,
    row_kept h.rP gr (fun k e => by cases e; exact row_apart h.rP h.box (by decide)), row_kept h.rC gr (fun k e => by cases e; exact row_apart h.rC h.box (by decide)), row_kept h.rA gr (fun k e => by cases e; exact row_apart h.rA h.box (by decide)),
    fun p hp => row_kept (h.iP p hp) gr (fun k e => by cases e; exact row_apart (h.iP p hp) h.box (by decide)), fun a ha => row_kept (h.iA a ha) gr (fun k e => by cases e; exact row_apart (h.iA a ha) h.box (by decide)),
    grown_more h.gr gr (fun k hk => by cases hk; omega), far, h.sP, h.sC, h.sA, Nat.le_trans h.bsz gr.size⟩
theorem RlW.cellF (h : RlW w0 B q b F cs vP P vC C vA A W) (i : Nat) (v : Value) (hv : cs[i]? = some v) : W.cell? ⟨F, i, none⟩ = some v ∧ W.frozen? ⟨F, i, none⟩ = false := ⟨boxk_cell h.box i v hv, boxk_frozen h.box i⟩
/-- a pattern appended, whose list stands -/
theorem RlW.addP (h : RlW w0 B q b F cs vP P vC C vA A W) {g cap : Nat} {u : PE} (hu : u.tiny) (hi : W.ownsRow b 157 5 (.slice u.a u.L.length u.cap) u.L.length (rowOf A5.cs u.L))
    (ho : W'.ownsRow b 79 3 (.slice (some ⟨g, 0, none⟩) (P.length + 1) cap) (P.length + 1) (rowOf PE.cs P ++ u.cs)) (hg : W.grownBy W' vP.ownBlock) :
    RlW w0 B q b F cs (.slice (some ⟨g, 0, none⟩) (P.length + 1) cap) (P ++ [u]) vC C vA A W' := by
  have far := h.far
  have hB := h.cur.1
  have lo : ∀ k, vP.ownBlock = some k → b ≤ k := fun k e => (h.rP.lt k e).1
  have hc := h.cur.keep hg (fun e => by have := lo _ e; omega) (fun k e => by have := lo k e; omega)
  have K := h.kept (W' := W') hg hc (grown_more h.gr hg (fun k e => by have := lo k e; omega)) (row_apart h.rP h.box (by decide)) (fun e => by have := lo _ e; omega)
  have ht : W'.ownsRow b 79 3 (.slice (some ⟨g, 0, none⟩) (P.length + 1) cap) (P ++ [u]).length (rowOf PE.cs (P ++ [u])) := by
    rw [show rowOf PE.cs P ++ u.cs = rowOf PE.cs (P ++ [u]) by rw [rowOf_append]; simp [rowOf]] at ho
    rw [List.length_append]; exact ho
  refine ⟨hc, by rw [hg.block F h.lt (fun e => row_apart h.rP h.box (by decide) e.symm)]; exact h.box, by rw [hg.block _ (Array.getElem?_eq_some_iff.1 h.res).1 (fun e => by have := lo _ e.symm; omega)]; exact h.res, ht,
    row_kept h.rC hg (fun k e => rows_apart h.rC h.rP (by decide) e), row_kept h.rA hg (fun k e => rows_apart h.rA h.rP (by decide) e), fun p hp => ?_, fun a ha => row_kept (h.iA a ha) hg (fun k e => rows_apart (h.iA a ha) h.rP (by decide) e),
    grown_more h.gr hg (fun k e => by have := lo k e; omega), far, fun p hp => ?_, h.sC, h.sA, Nat.le_trans h.bsz hg.size⟩
  · rcases List.mem_append.1 hp with hp | hp
    · exact row_kept (h.iP p hp) hg (fun k e => rows_apart (h.iP p hp) h.rP (by decide) e)
    · simp only [List.mem_cons, List.not_mem_nil, or_false] at hp
      rw [hp]; exact row_kept hi hg (fun k e => rows_apart hi h.rP (by decide) e)
  · rcases List.mem_append.1 hp with hp | hp
    · exact h.sP p hp
    · simp only [List.mem_cons, List.not_mem_nil, or_false] at hp
      rw [hp]; exact hu
/-- a condition appended -/
theorem RlW.addC (h : RlW w0 B q b F cs vP P vC C vA A W) {g cap : Nat} {u : C11} (hu : u.small)
    (ho : W'.ownsRow b 162 11 (.slice (some ⟨g, 0, none⟩) (C.length + 1) cap) (C.length + 1) (rowOf C11.cs C ++ u.cs)) (hg : W.grownBy W' vC.ownBlock) :
    RlW w0 B q b F cs vP P (.slice (some ⟨g, 0, none⟩) (C.length + 1) cap) (C ++ [u]) vA A W' := by
  have far := h.far
  have hB := h.cur.1
  have lo : ∀ k, vC.ownBlock = some k → b ≤ k := fun k e => (h.rC.lt k e).1
  have hc := h.cur.keep hg (fun e => by have := lo _ e; omega) (fun k e => by have := lo k e; omega)
  have ht : W'.ownsRow b 162 11 (.slice (some ⟨g, 0, none⟩) (C.length + 1) cap) (C ++ [u]).length (rowOf C11.cs (C ++ [u])) := by
    rw [show rowOf C11.cs C ++ u.cs = rowOf C11.cs (C ++ [u]) by rw [rowOf_append]; simp [rowOf]] at ho
    rw [List.length_append]; exact ho
  refine ⟨hc, by rw [hg.block F h.lt (fun e => row_apart h.rC h.box (by decide) e.symm)]; exact h.box, by rw [hg.block _ (Array.getElem?_eq_some_iff.1 h.res).1 (fun e => by have := lo _ e.symm; omega)]; exact h.res,
    row_kept h.rP hg (fun k e => rows_apart h.rP h.rC (by decide) e), ht, row_kept h.rA hg (fun k e => rows_apart h.rA h.rC (by decide) e), fun p hp => row_kept (h.iP p hp) hg (fun k e => rows_apart (h.iP p hp) h.rC (by decide) e), fun a ha => row_kept (h.iA a ha) hg (fun k e => rows_apart (h.iA a ha) h.rC (by decide) e),
    grown_more h.gr hg (fun k e => by have := lo k e; omega), far, h.sP, fun p hp => ?_, h.sA, Nat.le_trans h.bsz hg.size⟩
  rcases List.mem_append.1 hp with hp | hp
  · exact h.sC p hp
  · simp only [List.mem_cons, List.not_mem_nil, or_false] at hp
    rw [hp]; exact hu
/-- an act appended, whose list stands -/
theorem RlW.addA (h : RlW w0 B q b F cs vP P vC C vA A W) {g cap : Nat} {u : QE} (hu : u.tiny) (hi : W.ownsRow b 206 11 (.slice u.a u.L.length u.cap) u.L.length (rowOf X11.cs u.L))
    (ho : W'.ownsRow b 166 5 (.slice (some ⟨g, 0, none⟩) (A.length + 1) cap) (A.length + 1) (rowOf QE.cs A ++ u.cs)) (hg : W.grownBy W' vA.ownBlock) :
    RlW w0 B q b F cs vP P vC C (.slice (some ⟨g, 0, none⟩) (A.length + 1) cap) (A ++ [u]) W' := by
  have far := h.far
  have hB := h.cur.1
  have lo : ∀ k, vA.ownBlock = some k → b ≤ k := fun k e => (h.rA.lt k e).1
  have hc := h.cur.keep hg (fun e => by have := lo _ e; omega) (fun k e => by have := lo k e; omega)
  have ht : W'.ownsRow b 166 5 (.slice (some ⟨g, 0, none⟩) (A.length + 1) cap) (A ++ [u]).length (rowOf QE.cs (A ++ [u])) := by
    rw [show rowOf QE.cs A ++ u.cs = rowOf QE.cs (A ++ [u]) by rw [rowOf_append]; simp [rowOf]] at ho
    rw [List.length_append]; exact ho
  refine ⟨hc, by rw [hg.block F h.lt (fun e => row_apart h.rA h.box (by decide) e.symm)]; exact h.box, by rw [hg.block _ (Array.getElem?_eq_some_iff.1 h.res).1 (fun e => by have := lo _ e.symm; omega)]; exact h.res,
    row_kept h.rP hg (fun k e => rows_apart h.rP h.rA (by decide) e), row_kept h.rC hg (fun k e => rows_apart h.rC h.rA (by decide) e), ht, fun p hp => row_kept (h.iP p hp) hg (fun k e => rows_apart (h.iP p hp) h.rA (by decide) e), fun a ha => ?_,
    grown_more h.gr hg (fun k e => by have := lo k e; omega), far, h.sP, h.sC, fun a ha => ?_, Nat.le_trans h.bsz hg.size⟩
  · rcases List.mem_append.1 ha with ha | ha
    · exact row_kept (h.iA a ha) hg (fun k e => rows_apart (h.iA a ha) h.rA (by decide) e)
    · simp only [List.mem_cons, List.not_mem_nil, or_false] at ha
      rw [ha]; exact row_kept hi hg (fun k e => rows_apart hi h.rA (by decide) e)
  · rcases List.mem_append.1 ha with ha | ha
    · exact h.sA a ha
    · simp only [List.mem_cons, List.not_mem_nil, or_false] at ha
      rw [ha]; exact hu
/-- a drawn rule is small -/
theorem tiny_rule {x : RE} (hn : x.nm.size ≤ 100) (hP : ∀ p ∈ x.P, p.tiny) (hC : ∀ c ∈ x.C, c.small) (hA : ∀ a ∈ x.A, a.tiny) (lP : x.P.length ≤ 100) (lC : x.C.length ≤ 100) (lA : x.A.length ≤ 100) : x.small := by
  have h1 := sum_most (wt := PE.sz) (c := 108) (L := x.P) (fun p hp => by obtain ⟨-, h1, h2⟩ := hP p hp; unfold PE.sz; omega)
  have h2 := sum_most (wt := QE.sz) (c := 208) (L := x.A) (fun p hp => by obtain ⟨-, h1, h2, h3⟩ := hA p hp; unfold QE.sz; omega)
  refine ⟨?_, fun p hp => (hP p hp).1, hC, fun a ha => (hA a ha).1⟩
  unfold RE.sz
  omega
/-- a list of a drawn row is a slice -/
theorem own_slice {w : World} {base n size : Nat} {T : TypeId} {v : Value} {xs : List Value} (h : w.ownsRow base T size v n xs) : ∃ a c, v = .slice a n c := by
  rcases h.2 with ⟨h1, h0⟩ | ⟨g, cp, _, h, _⟩
  · exact ⟨none, 0, by rw [h1, h0]⟩
  · exact ⟨_, _, h⟩
/-- what it reads as -/
theorem RlW.rd (h : RlW w0 B q b F cs vP P vC C vA A W) (nm : ByteArray) (sal : Int) : ∃ x : RE, x.nm = nm ∧ x.sal = sal ∧ vP = .slice x.aP x.nP x.cP ∧ vC = .slice x.aC x.nC x.cC ∧ vA = .slice x.aA x.nA x.cA ∧ x.P = P ∧ x.C = C ∧ x.A = A ∧ RdRule W x := by
  obtain ⟨aP, cP, eP, rP, -⟩ := rdK_owns PE.len (by decide) h.rP
  obtain ⟨aC, cC, eC, rC, -⟩ := rdK_owns C11.len (by decide) h.rC
  obtain ⟨aA, cA, eA, rA, -⟩ := rdK_owns QE.len (by decide) h.rA
  refine ⟨⟨nm, sal, aP, P.length, cP, P, aC, C.length, cC, C, aA, A.length, cA, A⟩, rfl, rfl, eP, eC, eA, rfl, rfl, rfl, ⟨⟨rP, fun i hi => ?_⟩, rC, ⟨rA, fun i hi => ?_⟩, rfl, rfl, rfl⟩⟩
  · obtain ⟨a, c, e, r, -⟩ := rdK_owns A5.len (by decide) (h.iP _ (eAt_mem hi))
    simp only [Value.slice.injEq] at e
    rw [e.1]; exact r
  · obtain ⟨a, c, e, r, -⟩ := rdK_owns X11.len (by decide) (h.iA _ (eAt_mem hi))
    simp only [Value.slice.injEq] at e
    rw [e.1]; exact r
end
end Go.Proofs.Ytfgigcdfmkfkjaa
