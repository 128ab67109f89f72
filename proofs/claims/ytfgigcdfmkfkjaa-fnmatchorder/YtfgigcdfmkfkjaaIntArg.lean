/-
  A row of numbers that came in, and the contracts of the laws' own helpers on it: szIntS counts off, toIntS copies.
-/
import Derived.Test.YtfgigcdfmkfkjaaIntRow
import Derived.Test.YtfgigcdfmkfkjaaRowK
import Derived.Test.YtfgigcdfmkfkjaaFactArg
namespace Go.Proofs.Ytfgigcdfmkfkjaa
open Go.ChangeShapes Go.WideShapes Go.ChangeAt Go.RowKit Go.Joins Go.Deep
set_option linter.unusedVariables false
set_option maxRecDepth 100000

def IsInts (w : World) (a : Option Addr) (len cap : Nat) (zs : List Int) : Prop := zs.length = len ∧ len ≤ maxLen ∧ RdN w a zs
theorem RdN.below {w w' : World} {a : Option Addr} {zs : List Int} (h : RdN w a zs) (hb : Below w.heap.size w w') : RdN w' a zs := by
  intro i hi
  obtain ⟨b, off, e, h0⟩ := h i hi
  refine ⟨b, off, e, ?_⟩
  rw [hb.cell (World.block_lt_of_cell? w _ h0)]; exact h0
theorem RdN.heap {w w' : World} {a : Option Addr} {zs : List Int} (h : RdN w a zs) (hb : w'.heap = w.heap) : RdN w' a zs := by
  intro i hi
  obtain ⟨b, off, e, h0⟩ := h i hi
  exact ⟨b, off, e, by rw [show ∀ p, w'.cell? p = w.cell? p from fun p => by simp [World.cell?, hb]]; exact h0⟩
theorem RdN.nil (w : World) (a : Option Addr) : RdN w a [] := fun i hi => absurd hi (Nat.not_lt_zero _)
theorem int_cells {H : Type} {enc : TypeId × Value → H} {w : World} {base : Nat} {spare : Nat → Bool} {held : Bool} {n : Nat} {cs : List Value} {x : DataW H × List MemPlace}
    (h : DataW.trod enc Try.prog w base spare held n 3 cs = some x) : ∃ K, cs = [.int .i64 K] := by
  obtain ⟨K, eK, _, _⟩ := DataW.trod_int Try.underlying3 h
  exact ⟨K, eK⟩
theorem ints_in {H : Type} {enc : TypeId × Value → H} {w : World} {spare : Nat → Bool} {held : Bool} {n : Nat} {v : Value} {x : DataW H × List MemPlace}
    (h : DataW.trod enc Try.prog w 0 spare held n 22 [v] = some x) : ∃ a len cap zs, v = .slice a len cap ∧ IsInts w a len cap zs := by
  have hc : Try.prog.cellsOf 3 = 1 := by kernel_rfl
  rcases open_slice Try.underlying22 h with ⟨h0, _⟩ | ⟨a, len, cap, m, n', D, Pl, h0, hb, hl, hm, hmm, _, hx⟩
  · simp only [List.cons.injEq, and_true] at h0
    exact ⟨none, 0, 0, [], h0, rfl, Nat.zero_le _, RdN.nil _ _⟩
  · simp only [List.cons.injEq, and_true] at h0
    have hlm : len ≤ m := by rw [hmm]; split <;> omega
    obtain ⟨F, hF⟩ := choose_lt (α := Int) (n := len) (p := fun i v => w.cells? 0 (a.add (i * 1)) 1 = some [.int .i64 v]) (fun i hi => by
      obtain ⟨cs', h1, h2⟩ := hx i (by omega)
      rw [hc] at h1
      obtain ⟨K, rfl⟩ := int_cells h2
      exact ⟨K, h1⟩)
    refine ⟨some a, len, cap, (List.range len).map F, h0, by simp, Nat.le_trans hl hm, fun i hi => ?_⟩
    have hi2 : i < len := by simpa using hi
    obtain ⟨_, _, hcell⟩ := World.cells?_some (hF i hi2)
    obtain ⟨b, off, spot⟩ := a
    have e0 := hcell 0 (by omega)
    rw [add_add] at e0
    have hs : spot = none := by
      obtain ⟨_, _, hcell0⟩ := World.cells?_some (hF 0 (by omega))
      have e := hcell0 0 (by omega)
      rw [add_add] at e
      simp only [List.getElem?_cons_zero] at e
      simpa [Addr.add] using World.cell?_spot e
    subst hs
    refine ⟨b, off, rfl, ?_⟩
    rw [zAt_in hi]
    simp only [List.getElem_map, List.getElem_range]
    rw [Addr.add_lit] at e0
    simpa using e0

set_option maxHeartbeats 1600000 in
theorem szIntS_any (a : Option Addr) (n cap : Nat) (left : Int) (w : World) (hm : n ≤ maxLen) (h0 : 0 ≤ left) (h1 : left ≤ 1048576) :
    Calls Try.prog 46 #[.slice a n cap, .int .i64 left] w fun e w' => (∃ r, e = .returned (.int .i64 r) ∧ (r = -1 ∨ (0 ≤ r ∧ r + (n : Int) ≤ left))) ∧ Below w.heap.size w w' := by
  unfold maxLen at hm
  by_cases h2 : left - (n : Int) < 0
  · go_enter Try.func46, Try.ntmps46
    go_wp2
    go_ret
    exact ⟨⟨-1, rfl, .inl rfl⟩, Below.refl _ _⟩
  · go_enter Try.func46, Try.ntmps46
    go_wp2
    go_ret
    exact ⟨⟨left - n, rfl, .inr ⟨by omega, by omega⟩⟩, Below.refl _ _⟩

theorem valsN_part {zs : List Int} {k : Nat} (h : k < zs.length) : (valsN (partK zs 0 k)).set k (.int .i64 (zAt zs k)) = valsN (partK zs 0 (k + 1)) := by
  rw [← partK_set h]
  have e : eAt zs k = zAt zs k := rfl
  rw [e]
  simp [valsN, List.map_set]
theorem infoInt : (Try.prog.info? 3).map (fun i => (i.zero, i.size, i.bytes)) = some (some (.int .i64 0), 1, 8) := by kernel_rfl
set_option maxHeartbeats 1600000 in
theorem toIntS_at (a : Option Addr) (n cap : Nat) (zs : List Int) (w : World) (hr : RdN w a zs) (hz : zs.length = n) (hn : n ≤ 1048576) :
    Calls Try.prog 21 #[.slice a n cap] w fun e w' =>
      e = .returned (.slice (some ⟨w.heap.size, 0, none⟩) n n) ∧ w'.ownsRow w.heap.size 3 1 (.slice (some ⟨w.heap.size, 0, none⟩) n n) n (valsN zs) ∧ Below w.heap.size w w' := by
  obtain ⟨i0, hi, hz0, hz1, hz2⟩ := info_parts infoInt
  have HN := hide hz
  clear hz
  have hmade : (madeCells #[.int .i64 0] n).toList = valsN (List.replicate n 0) := by
    apply List.ext_getElem?
    intro j
    by_cases hj : j < n
    · simp [madeCells, valsN, hj, Nat.mod_one]
    · simp [madeCells, valsN, hj]
  go_enter Try.func21, Try.ntmps21
  go_wp2_with (at_make; refine wpList_make_full _ rfl _ _ 22 rfl w.heap.size 3 i0 (.int .i64 0) 1 Try.underlying22 hi hz0 hz1 _ _ _ _ n rfl rfl (by omega) (by omega) ?b2 ?b3 (Nat.le_refl _) ?_)
  case b2 => rw [hz2]; omega
  case b3 => unfold maxLen; omega
  intro w0 hown0 hgrow0
  have hown0' : w0.ownsRow w.heap.size 3 1 (.slice (some ⟨w.heap.size, 0, none⟩) n n) n (valsN (partK zs 0 0)) := by
    rw [partK_zero, HN.out]
    exact hown0
  clear hown0 hmade
  go_wp2
  go_loopw [4] (fun i wr => ∃ k : Nat, k ≤ n ∧ i = .int .i64 k ∧ wr.ownsRow w.heap.size 3 1 (.slice (some ⟨w.heap.size, 0, none⟩) n n) n (valsN (partK zs 0 k)) ∧ Below w.heap.size w wr)
    (fun i _ => n - (intOf i).toNat)
  case atStart => exact ⟨0, Nat.zero_le _, rfl, hown0', (Below.refl _ _).grown hgrow0 (Nat.le_refl _) (fun k h => by cases h)⟩
  case round =>
    obtain ⟨k, hk, rfl, hown, hbel⟩ := hrel
    by_cases hlt : k < n
    · obtain ⟨b, off, hab, hbw, hc⟩ := hr.open (by rw [HN.out]; omega)
      have c0 := hc k (by rw [HN.out]; exact hlt)
      clear hc
      subst hab
      rw [← hbel.cell (p := ⟨b, off + k, none⟩) hbw] at c0
      have hlen : (valsN (partK zs 0 k)).length = n := by rw [valsN_length, partK_length (by rw [HN.out]; omega), HN.out]
      obtain ⟨u0, m0⟩ : ∃ u, wr.cell? ⟨w.heap.size, k, none⟩ = some u := by
        rw [hown.cellAt k (by omega), List.getElem?_eq_getElem (by omega)]
        exact ⟨_, rfl⟩
      have f0 := hown.frozenAt k
      have HO := hide (hown.stored k (.int .i64 (zAt zs k))).1
      have HB : Hid (Below w.heap.size w (wr.setCell ⟨w.heap.size, k, none⟩ (.int .i64 (zAt zs k)))) := hbel.setCell (Nat.le_refl _) _
      rw [valsN_part (by rw [HN.out]; exact hlt)] at HO
      clear hlen hown hbel
      go_wp2
      go_roundw
      case rel => exact ⟨k + 1, by omega, by go_num, HO.out, HB.out⟩
      case measure => simp [intOf]; omega
    · have HE : Hid (wr.ownsRow w.heap.size 3 1 (.slice (some ⟨w.heap.size, 0, none⟩) n n) n (valsN zs)) := by
        have hkn : k = zs.length := by rw [HN.out]; omega
        rw [hkn, partK_end] at hown
        exact hown
      clear hown
      go_wp2
      go_ret
      exact ⟨rfl, HE.out, hbel⟩
end Go.Proofs.Ytfgigcdfmkfkjaa
