/-
  The texts of terms, joined, behind a name: plainly, and what the tested program's functions answer.
-/
import Derived.Test.YtaflokfgbmlmaacDoorJExprT
import Derived.Test.YtaflokfgbmlmaacDoorJPatT
import Derived.Test.YtaflokfgbmlmaacDoorJNamedX
import Derived.Test.YtaflokfgbmlmaacDoorShelf
import Derived.OwnWalk
namespace Go.Proofs.YtaflokfgbmlmaacDoor
open Go.RowKit
set_option linter.unusedVariables false

def X11.tx (x : X11) : ByteArray := exprT x.Op x.L x.R
theorem txX_size {x : X11} (h : x.ok = true) : x.tx.size ≤ 47 := by
  have h' : exprB x.Op x.L x.R = true := h
  by_cases h0 : x.Op.size = 0
  · have e : x.Op = ⟨#[]⟩ := empty_of_size h0
    unfold X11.tx
    rw [e] at h' ⊢
    rw [exprT_one h']
    have := txA_size (exprB_left h')
    omega
  · unfold X11.tx
    rw [exprT_two h' h0]
    have h1 := txA_size (exprB_left h')
    have h2 := txA_size (exprB_right h' h0).1
    have h3 := (exprB_right h' h0).2
    have c32 : (ByteArray.mk #[32]).size = 1 := rfl
    simp only [ByteArray.size_append, c32]
    omega

/-- the texts with a comma and a blank between -/
def joinX (L : List X11) : List UInt8 := Lib.join (L.map fun v => v.tx.data.toList) [44, 32]
theorem joinX_nil : joinX [] = [] := rfl
theorem joinX_snoc (L : List X11) (v : X11) : joinX (L ++ [v]) = if L = [] then v.tx.data.toList else joinX L ++ (44 :: 32 :: v.tx.data.toList) := by
  unfold joinX Lib.join
  induction L with
  | nil => simp [List.intercalate]
  | cons a r ih =>
    rw [if_neg (by simp)]
    cases r with
    | nil => simp [List.intercalate]
    | cons b s =>
      rw [if_neg (by simp)] at ih
      simp only [List.map_append, List.map_cons, List.map_nil, List.cons_append] at ih ⊢
      have e : ∀ (p q : List UInt8) (t : List (List UInt8)), List.intercalate [44, 32] (p :: q :: t) = p ++ (44 :: 32 :: List.intercalate [44, 32] (q :: t)) := fun p q t => by simp [List.intercalate, List.intersperse]
      rw [e, e, ih]
      simp
theorem joinX_take {L : List X11} (h : ∀ v ∈ L, v.ok = true) : ∀ k, k ≤ L.length → (joinX (L.take k)).length ≤ 49 * k
  | 0, _ => by simp [joinX_nil]
  | k + 1, hk => by
    have ih := joinX_take h k (by omega)
    have h2 := txX_size (h L[k] (List.getElem_mem (by omega)))
    have e : L[k].tx.data.toList.length = L[k].tx.size := by rw [Array.length_toList]; rfl
    rw [List.take_succ_eq_append_getElem (by omega), joinX_snoc]
    split
    · omega
    · simp only [List.length_append, List.length_cons]; omega
theorem joinX_le {L : List X11} (h : ∀ v ∈ L, v.ok = true) : (joinX L).length ≤ 49 * L.length := by
  have := joinX_take h L.length (Nat.le_refl _)
  rwa [List.take_length] at this

/-- a name with terms behind it -/
def namedT (nm : ByteArray) (L : List X11) : ByteArray := nm ++ ⟨#[40]⟩ ++ ⟨(joinX L).toArray⟩ ++ ⟨#[41]⟩
theorem namedX_open {nm : ByteArray} {L : List X11} (h : namedX nm L = true) : nameB nm = true ∧ L.length ≤ 5 ∧ ∀ v ∈ L, v.ok = true := by
  unfold namedX at h
  simp only [Bool.and_eq_true, decide_eq_true_eq, List.all_eq_true] at h
  exact ⟨h.1.1, h.1.2, h.2⟩
theorem joinX_size {L : List X11} (h5 : L.length ≤ 5) (h : ∀ v ∈ L, v.ok = true) : (⟨(joinX L).toArray⟩ : ByteArray).size ≤ 245 := by
  have := joinX_le h
  show (joinX L).toArray.size ≤ 245
  simp only [List.size_toArray]
  omega
theorem namedT_size {nm : ByteArray} {L : List X11} (h : namedX nm L = true) : (namedT nm L).size ≤ 259 := by
  obtain ⟨h1, h2, h3⟩ := namedX_open h
  have c40 : (ByteArray.mk #[40]).size = 1 := rfl
  have c41 : (ByteArray.mk #[41]).size = 1 := rfl
  have := joinX_size h2 h3
  have := nameP_size h1
  unfold namedT
  simp only [ByteArray.size_append, c40, c41]
  omega

theorem infoSX : (Tryd.prog.info? 9).map (fun i => (i.zero, i.size, i.bytes)) = some (some (.string ⟨#[]⟩), 1, 16) := by kernel_rfl
def cellsX (L : List X11) : List Value := L.map fun v => .string v.tx
theorem cellsX_snoc (L : List X11) (v : X11) : cellsX L ++ [.string v.tx] = cellsX (L ++ [v]) := by simp [cellsX]
def txsX (L : List X11) : List ByteArray := L.map X11.tx
theorem txsX_join (L : List X11) : Lib.join ((txsX L).map (·.data.toList)) (ByteArray.mk #[44, 32]).data.toList = joinX L := by
  unfold txsX joinX
  rw [List.map_map]
  rfl
theorem own_txsX {W : World} {base g c n : Nat} {L : List X11} (h : W.ownsRow base 9 1 (.slice (some ⟨g, 0, none⟩) n c) n (cellsX L)) :
    ∀ (j : Nat) x, (txsX L)[j]? = some x → W.cell? ⟨g, 0 + j, none⟩ = some (.string x) := by
  intro j x hj
  have := h.cells (g := g) rfl j (.string x) (by unfold txsX at hj; unfold cellsX; rw [List.getElem?_map] at hj ⊢; cases hq : L[j]? with
    | none => rw [hq] at hj; cases hj
    | some v => rw [hq] at hj; simp at hj ⊢; exact hj)
  rwa [Addr.add_lit] at this
theorem own_ltX {W : World} {base g c n : Nat} {T : TypeId} {xs : List Value} (h : W.ownsRow base T 1 (.slice (some ⟨g, 0, none⟩) n c) n xs) : g < W.heap.size ∧ n ≤ c := by
  refine ⟨(h.lt g rfl).2, ?_⟩
  rcases h.2 with ⟨h1, _⟩ | ⟨g', cap', cur, h1, hb', hh, hnc, _⟩
  · simp at h1
  · simp only [Value.slice.injEq] at h1; omega
theorem ret_strX {a b : ByteArray} (h : a = b) : Ending.returned (.string a) = .returned (.string b) := by rw [h]
theorem src1X (W : World) (x : ByteArray) : ∀ j u, ([.string x] : List Value)[j]? = some u → (W.alloc (.cells #[.string x] 9)).cell? ((⟨W.heap.size, 0, none⟩ : Addr).add j) = some u := by
  intro j u hj
  rw [Addr.add_lit, Nat.zero_add]
  have hb : (W.alloc (.cells #[.string x] 9)).heap[W.heap.size]? = some (.cells #[.string x] 9 (0, 0)) := by rw [heap_alloc_new]
  match j, hj with
  | 0, hj => rw [cell_of_row _ _ 0 _ _ (0, 0) hb]; simpa using hj
theorem one1X (x : ByteArray) : ∀ u ∈ ([.string x] : List Value), u.oneCell' = true := by
  intro u hu
  simp only [List.mem_cons, List.not_mem_nil, or_false] at hu
  rw [hu]; rfl

set_option maxRecDepth 100000 in
set_option maxHeartbeats 3200000 in
theorem joinExprs_any (a : Option Addr) (cap : Nat) (L : List X11) (sep : ByteArray) (w : World) (hr : RdExpr w a L) (hs : ∀ v ∈ L, v.fits) (hm : L.length ≤ 5) (ht : Tab w) (hlen : (Lib.join ((txsX L).map (·.data.toList)) sep.data.toList).length ≤ 140737488355328) :
    Calls Tryd.prog 87 #[.slice a L.length cap, .func (.func 18) #[] #[], .string sep] w fun e w' =>
      e = .returned (.string ⟨(Lib.join ((txsX L).map (·.data.toList)) sep.data.toList).toArray⟩) ∧ Below w.heap.size w w' := by
  obtain ⟨i0, hi, hz0, hz1, hz2⟩ := info_parts infoSX
  have HTab := hide ht
  have HS := hide hs
  have HL := hide hlen
  clear ht hs hlen
  obtain ⟨n, hN⟩ : ∃ n, n = L.length := ⟨_, rfl⟩
  rw [← hN] at hm ⊢
  have HN := hide hN
  clear hN
  have hz3 : (i0.bytes * n) = 16 * n := by rw [hz2]
  go_enter Tryd.func87, Tryd.ntmps87
  go_wp2_with (at_make; refine wpList_make_own _ rfl _ _ 58 rfl w.heap.size 9 i0 (.string ⟨#[]⟩) 1 Tryd.underlying58 hi hz0 hz1 _ _ _ n rfl rfl (by omega) ?b2 ?b3 (Nat.le_refl _) ?_)
  case b2 => rw [hz2]; omega
  case b3 => unfold maxLen; omega
  intro w2 ho2 hg2
  have b2 : Below w.heap.size w w2 := below_gn' hg2
  clear hg2
  go_wp2
  go_loopw [7, 15] (fun v i wr => ∃ (k g c : Nat), k ≤ n ∧ i = .int .i64 k ∧ v = .slice (some ⟨g, 0, none⟩) k c ∧ wr.ownsRow w.heap.size 9 1 (.slice (some ⟨g, 0, none⟩) k c) k (cellsX (L.take k)) ∧ Below w.heap.size w wr) (fun _ i _ => n - (intOf i).toNat)
  case atStart => exact ⟨0, w.heap.size, n, Nat.zero_le _, rfl, rfl, by rw [List.take_zero]; exact ho2, b2⟩
  case round =>
    clear ho2 b2
    obtain ⟨k, g, c, hk, rfl, rfl, hown, hbel⟩ := hrel
    by_cases hlt : k < n
    · have hlL : k < L.length := by rw [← HN.out]; exact hlt
      obtain ⟨b, off, hab, hbw, hc⟩ := RdExpr.cells hr (by omega)
      obtain ⟨c0, c1, c2, c3, c4, c5, c6, c7, c8, c9, c10⟩ := hc k hlL
      clear hc
      subst hab
      rw [← hbel.cell (p := ⟨b, off + k * 11, none⟩) hbw] at c0
      rw [← hbel.cell (p := ⟨b, off + k * 11 + 1, none⟩) hbw] at c1
      rw [← hbel.cell (p := ⟨b, off + k * 11 + 2, none⟩) hbw] at c2
      rw [← hbel.cell (p := ⟨b, off + k * 11 + 3, none⟩) hbw] at c3
      rw [← hbel.cell (p := ⟨b, off + k * 11 + 4, none⟩) hbw] at c4
      rw [← hbel.cell (p := ⟨b, off + k * 11 + 5, none⟩) hbw] at c5
      rw [← hbel.cell (p := ⟨b, off + k * 11 + 6, none⟩) hbw] at c6
      rw [← hbel.cell (p := ⟨b, off + k * 11 + 7, none⟩) hbw] at c7
      rw [← hbel.cell (p := ⟨b, off + k * 11 + 8, none⟩) hbw] at c8
      rw [← hbel.cell (p := ⟨b, off + k * 11 + 9, none⟩) hbw] at c9
      rw [← hbel.cell (p := ⟨b, off + k * 11 + 10, none⟩) hbw] at c10
      have HTake : Hid (cellsX (L.take k) ++ [.string (eAt L k).tx] = cellsX (L.take (k + 1))) := by unfold Hid; rw [cellsX_snoc, List.take_succ_eq_append_getElem hlL, eAt_in]
      have hS : (eAt L k).fits := by rw [eAt_in hlL]; exact HS.out _ (List.getElem_mem _)
      rw [show (eAt L k).tx = exprT (eAt L k).Op (eAt L k).L (eAt L k).R from rfl] at HTake
      generalize eAt L k = x at c0 c1 c2 c3 c4 c5 c6 c7 c8 c9 c10 HTake hS
      obtain ⟨hSo, hS0, hS1⟩ := hS
      have bA : Below w.heap.size w (wr.alloc (.cells #[.string x.Op, .int .i64 x.L.K, .string x.L.S, .int .i64 x.L.V.K, .int .i64 x.L.V.N, .string x.L.V.S, .int .i64 x.R.K, .string x.R.S, .int .i64 x.R.V.K, .int .i64 x.R.V.N, .string x.R.V.S] 41)) := hbel.alloc hbel.size _
      have hoA := hown.alloc (.cells #[.string x.Op, .int .i64 x.L.K, .string x.L.S, .int .i64 x.L.V.K, .int .i64 x.L.V.N, .string x.L.V.S, .int .i64 x.R.K, .string x.R.S, .int .i64 x.R.V.K, .int .i64 x.R.V.N, .string x.R.V.S] 41)
      have HTA : Hid (Tab (wr.alloc (.cells #[.string x.Op, .int .i64 x.L.K, .string x.L.S, .int .i64 x.L.V.K, .int .i64 x.L.V.N, .string x.L.V.S, .int .i64 x.R.K, .string x.R.S, .int .i64 x.R.V.K, .int .i64 x.R.V.N, .string x.R.V.S] 41))) := HTab.out.later bA (Nat.le_refl _)
      go_wp2_with fail
      refine (implExprText_any x.Op x.L x.R _ hS0 hS1 HTA.out).mono ?_
      rintro e w3 ⟨rfl, hb3⟩
      generalize exprT x.Op x.L x.R = tx at HTake
      have bel3 : Below w.heap.size w w3 := bA.trans (hb3.mono bA.size)
      have HO4 := hide ((ownsRow_below' hoA hb3).alloc (.cells #[.string tx] 9))
      have HB4 := hide (bel3.alloc bel3.size (.cells #[.string tx] 9))
      have HSrc := hide (src1X w3 tx)
      clear hb3 hbel hown hoA bA HTA c0 c1 c2 c3 c4 c5 c6 c7 c8 c9 c10 bel3
      go_wp2_with (at_builtin; refine wpList_append_lies _ rfl (.tmp 19) (.tmp 23) 58 rfl w.heap.size 9 i0 (.string ⟨#[]⟩) 1 16 Tryd.underlying58 hi hz0 hz1 hz2 rfl (by omega) (.slice (some ⟨g, 0, none⟩) k c) k (cellsX (L.take k)) rfl HO4.out ⟨w3.heap.size, 0, none⟩ 1 1 [.string tx] ?hx rfl HSrc.out (one1X tx) (by omega) (by unfold maxLen; omega) (by omega) HB4.out.size _ rfl ?_)
      case hx => simp [Act.eval]
      intro g5 c5 w5 ho5 hg5 hat5 hlt5
      have HO5 : Hid (w5.ownsRow w.heap.size 9 1 (.slice (some ⟨g5, 0, none⟩) (k + 1) c5) (k + 1) (cellsX (L.take (k + 1)))) := by
        unfold Hid
        rw [← HTake.out]
        exact ho5
      have HB5 := hide (HB4.out.grown hg5 HB4.out.size (fun k hk => (HO4.out.lt k hk).1))
      clear ho5 hg5 hat5 hlt5 HO4 HSrc HB4
      go_wp2
      go_roundw
      case rel => exact ⟨k + 1, g5, c5, by omega, by go_num, rfl, HO5.out, HB5.out⟩
      case measure => simp [intOf]; omega
    · obtain rfl : k = n := by omega
      have HO : Hid (wr.ownsRow w.heap.size 9 1 (.slice (some ⟨g, 0, none⟩) k c) k (cellsX L)) := by
        have := hown
        rw [HN.out, List.take_length, ← HN.out] at this
        exact this
      have hcs := own_txsX HO.out
      obtain ⟨hgl, hkc⟩ := own_ltX HO.out
      have htl : (txsX L).length = k := by unfold txsX; rw [List.length_map, HN.out]
      have hjoin := Tryd.strings_Join g 0 c (txsX L) sep wr hcs hgl (by rw [htl]; omega) (by rw [htl]; exact hkc) HL.out
      rw [htl] at hjoin
      clear hown HO
      go_wp2_with fail
      refine hjoin.mono ?_
      rintro e w6 ⟨rfl, hb6⟩
      have B6 : Below w.heap.size w w6 := hbel.trans (hb6.mono hbel.size)
      go_wp2
      go_ret
      exact ⟨rfl, B6⟩

set_option maxRecDepth 100000 in
set_option maxHeartbeats 1600000 in
theorem namedTextX_any (kd : ByteArray) (a : Option Addr) (cap : Nat) (L : List X11) (sep y : ByteArray) (w : World) (hkd : kd.size ≤ 12) (hr : RdExpr w a L) (hs : ∀ x ∈ L, x.fits) (hm : L.length ≤ 5) (ht : Tab w) (hy : y = ⟨(Lib.join ((txsX L).map (·.data.toList)) sep.data.toList).toArray⟩) (hlen : y.size ≤ 1000) :
    Calls Tryd.prog 43 #[.string kd, .slice a L.length cap, .func (.func 18) #[] #[], .string sep] w fun e w' =>
      e = .returned (.string (kd ++ ⟨#[40]⟩ ++ y ++ ⟨#[41]⟩)) ∧ Below w.heap.size w w' := by
  have hl2 : (Lib.join ((txsX L).map (·.data.toList)) sep.data.toList).length ≤ 1000 := by
    rw [hy] at hlen
    have h2 : (Lib.join ((txsX L).map (·.data.toList)) sep.data.toList).toArray.size ≤ 1000 := hlen
    simpa using h2
  have hj := joinExprs_any a cap L sep w hr hs hm ht (by omega)
  rw [← hy] at hj
  have HJ := hide hj
  clear hj hy
  have c40 : (ByteArray.mk #[40]).size = 1 := rfl
  have c41 : (ByteArray.mk #[41]).size = 1 := rfl
  have n0 : ¬ 9223372036854775807 < kd.size + 1 := by omega
  have m0 : kd.size + 1 ≤ 9223372036854775807 := by omega
  have n1 : ¬ 9223372036854775807 < kd.size + 1 + y.size := by omega
  have m1 : kd.size + 1 + y.size ≤ 9223372036854775807 := by omega
  have n2 : ¬ 9223372036854775807 < kd.size + 1 + y.size + 1 := by omega
  have m2 : kd.size + 1 + y.size + 1 ≤ 9223372036854775807 := by omega
  have n4 : ¬ 9223372036854775807 ≤ kd.size := by omega
  have m4 : kd.size < 9223372036854775807 := by omega
  have n5 : ¬ 9223372036854775807 ≤ kd.size + 1 + y.size := by omega
  have m5 : kd.size + 1 + y.size < 9223372036854775807 := by omega
  clear c40 c41
  go_enter Tryd.func43, Tryd.ntmps43
  go_wp2_with fail
  refine HJ.out.mono ?_
  rintro e w6 ⟨rfl, hb6⟩
  go_wp2
  go_ret
  exact ⟨ret_strX (by simp only [ByteArray.append_assoc]), hb6⟩


end Go.Proofs.YtaflokfgbmlmaacDoor
