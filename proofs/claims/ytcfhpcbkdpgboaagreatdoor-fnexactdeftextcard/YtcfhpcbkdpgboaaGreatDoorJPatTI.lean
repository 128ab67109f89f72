/-
  What the tested function answers for a pattern's text: patT.
-/
import Derived.Test.YtcfhpcbkdpgboaaGreatDoorJoined4
import Derived.Test.YtcfhpcbkdpgboaaGreatDoorShelf
import Derived.OwnWalk
namespace Go.Proofs.YtcfhpcbkdpgboaaGreatDoor
open Go.RowKit
set_option linter.unusedVariables false

theorem infoSA : (Tryz.prog.info? 9).map (fun i => (i.zero, i.size, i.bytes)) = some (some (.string ⟨#[]⟩), 1, 16) := by kernel_rfl
def cellsA (L : List A5) : List Value := L.map fun v => .string v.tx
theorem cellsA_snoc (L : List A5) (v : A5) : cellsA L ++ [.string v.tx] = cellsA (L ++ [v]) := by simp [cellsA]
def txsA (L : List A5) : List ByteArray := L.map A5.tx
theorem txsA_join (L : List A5) : Lib.join ((txsA L).map (·.data.toList)) (ByteArray.mk #[44, 32]).data.toList = joinA L := by
  unfold txsA joinA
  rw [List.map_map]
  rfl
theorem own_txsA {W : World} {base g c n : Nat} {L : List A5} (h : W.ownsRow base 9 1 (.slice (some ⟨g, 0, none⟩) n c) n (cellsA L)) :
    ∀ (j : Nat) x, (txsA L)[j]? = some x → W.cell? ⟨g, 0 + j, none⟩ = some (.string x) := by
  intro j x hj
  have := h.cells (g := g) rfl j (.string x) (by unfold txsA at hj; unfold cellsA; rw [List.getElem?_map] at hj ⊢; cases hq : L[j]? with
    | none => rw [hq] at hj; cases hj
    | some v => rw [hq] at hj; simp at hj ⊢; exact hj)
  rwa [Addr.add_lit] at this
theorem own_ltA {W : World} {base g c n : Nat} {T : TypeId} {xs : List Value} (h : W.ownsRow base T 1 (.slice (some ⟨g, 0, none⟩) n c) n xs) : g < W.heap.size ∧ n ≤ c := by
  refine ⟨(h.lt g rfl).2, ?_⟩
  rcases h.2 with ⟨h1, _⟩ | ⟨g', cap', cur, h1, hb', hh, hnc, _⟩
  · simp at h1
  · simp only [Value.slice.injEq] at h1; omega
theorem ret_strA {a b : ByteArray} (h : a = b) : Ending.returned (.string a) = .returned (.string b) := by rw [h]
theorem src1A (W : World) (x : ByteArray) : ∀ j u, ([.string x] : List Value)[j]? = some u → (W.alloc (.cells #[.string x] 9)).cell? ((⟨W.heap.size, 0, none⟩ : Addr).add j) = some u := by
  intro j u hj
  rw [Addr.add_lit, Nat.zero_add]
  have hb : (W.alloc (.cells #[.string x] 9)).heap[W.heap.size]? = some (.cells #[.string x] 9 (0, 0)) := by rw [heap_alloc_new]
  match j, hj with
  | 0, hj => rw [cell_of_row _ _ 0 _ _ (0, 0) hb]; simpa using hj
theorem one1A (x : ByteArray) : ∀ u ∈ ([.string x] : List Value), u.oneCell' = true := by
  intro u hu
  simp only [List.mem_cons, List.not_mem_nil, or_false] at hu
  rw [hu]; rfl
theorem keepTA {w0 W w' : World} {B : Nat} {p0 p1 p2 : Addr} {v0 v1 v2 : Value} {a : Option Addr} {L : List A5} (hb : Below W.heap.size W w')
    (h : W.cell? p0 = some v0 ∧ W.cell? p1 = some v1 ∧ W.cell? p2 = some v2 ∧ RdArg W a L ∧ Below B w0 W ∧ B ≤ W.heap.size) :
    w'.cell? p0 = some v0 ∧ w'.cell? p1 = some v1 ∧ w'.cell? p2 = some v2 ∧ RdArg w' a L ∧ Below B w0 w' ∧ B ≤ w'.heap.size := by
  obtain ⟨h0, h1, h2, h3, h4, h5⟩ := h
  have k : ∀ {a : Addr} {v : Value}, W.cell? a = some v → w'.cell? a = some v := fun {a v} h => by rw [hb.cell (World.block_lt_of_cell? W _ h)]; exact h
  exact ⟨k h0, k h1, k h2, h3.below hb, h4.trans (hb.mono h5), Nat.le_trans h5 hb.size⟩
theorem rdTA {w0 W : World} {B : Nat} {p0 p1 p2 : Addr} {v0 v1 v2 : Value} {a : Option Addr} {L : List A5}
    (h : W.cell? p0 = some v0 ∧ W.cell? p1 = some v1 ∧ W.cell? p2 = some v2 ∧ RdArg W a L ∧ Below B w0 W ∧ B ≤ W.heap.size) : RdArg W a L := h.2.2.2.1
theorem belTA {w0 W : World} {B : Nat} {p0 p1 p2 : Addr} {v0 v1 v2 : Value} {a : Option Addr} {L : List A5}
    (h : W.cell? p0 = some v0 ∧ W.cell? p1 = some v1 ∧ W.cell? p2 = some v2 ∧ RdArg W a L ∧ Below B w0 W ∧ B ≤ W.heap.size) : Below B w0 W := h.2.2.2.2.1

set_option maxRecDepth 100000 in
set_option maxHeartbeats 3200000 in
theorem joinArgs_any (a : Option Addr) (cap : Nat) (L : List A5) (sep : ByteArray) (w : World) (hr : RdArg w a L) (hs : ∀ v ∈ L, v.fits) (hm : L.length ≤ 5) (ht : Tab w) (hlen : (Lib.join ((txsA L).map (·.data.toList)) sep.data.toList).length ≤ 140737488355328) :
    Calls Tryz.prog 109 #[.slice a L.length cap, .func (.func 73) #[] #[], .string sep] w fun e w' =>
      e = .returned (.string ⟨(Lib.join ((txsA L).map (·.data.toList)) sep.data.toList).toArray⟩) ∧ Below w.heap.size w w' := by
  obtain ⟨i0, hi, hz0, hz1, hz2⟩ := info_parts infoSA
  have HTab := hide ht
  have HS := hide hs
  have HL := hide hlen
  clear ht hs hlen
  obtain ⟨n, hN⟩ : ∃ n, n = L.length := ⟨_, rfl⟩
  rw [← hN] at hm ⊢
  have HN := hide hN
  clear hN
  have hz3 : (i0.bytes * n) = 16 * n := by rw [hz2]
  go_enter Tryz.func109, Tryz.ntmps109
  go_wp2_with (at_make; refine wpList_make_own _ rfl _ _ 72 rfl w.heap.size 9 i0 (.string ⟨#[]⟩) 1 Tryz.underlying72 hi hz0 hz1 _ _ _ n rfl rfl (by omega) ?b2 ?b3 (Nat.le_refl _) ?_)
  case b2 => rw [hz2]; omega
  case b3 => unfold maxLen; omega
  intro w2 ho2 hg2
  have b2 : Below w.heap.size w w2 := below_gn' hg2
  clear hg2
  go_wp2
  go_loopw [7, 15] (fun v i wr => ∃ (k g c : Nat), k ≤ n ∧ i = .int .i64 k ∧ v = .slice (some ⟨g, 0, none⟩) k c ∧ wr.ownsRow w.heap.size 9 1 (.slice (some ⟨g, 0, none⟩) k c) k (cellsA (L.take k)) ∧ Below w.heap.size w wr) (fun _ i _ => n - (intOf i).toNat)
  case atStart => exact ⟨0, w.heap.size, n, Nat.zero_le _, rfl, rfl, by rw [List.take_zero]; exact ho2, b2⟩
  case round =>
    clear ho2 b2
    obtain ⟨k, g, c, hk, rfl, rfl, hown, hbel⟩ := hrel
    by_cases hlt : k < n
    · have hlL : k < L.length := by rw [← HN.out]; exact hlt
      obtain ⟨b, off, hab, hbw, hc⟩ := RdArg.cells hr (by omega)
      obtain ⟨c0, c1, c2, c3, c4⟩ := hc k hlL
      clear hc
      subst hab
      rw [← hbel.cell (p := ⟨b, off + k * 5, none⟩) hbw] at c0
      rw [← hbel.cell (p := ⟨b, off + k * 5 + 1, none⟩) hbw] at c1
      rw [← hbel.cell (p := ⟨b, off + k * 5 + 2, none⟩) hbw] at c2
      rw [← hbel.cell (p := ⟨b, off + k * 5 + 3, none⟩) hbw] at c3
      rw [← hbel.cell (p := ⟨b, off + k * 5 + 4, none⟩) hbw] at c4
      have HTake : Hid (cellsA (L.take k) ++ [.string (eAt L k).tx] = cellsA (L.take (k + 1))) := by unfold Hid; rw [cellsA_snoc, List.take_succ_eq_append_getElem hlL, eAt_in]
      have hS : (eAt L k).fits := by rw [eAt_in hlL]; exact HS.out _ (List.getElem_mem _)
      rw [show (eAt L k).tx = argT (eAt L k).K (eAt L k).S (eAt L k).V from rfl] at HTake
      generalize eAt L k = xx at c0 c1 c2 c3 c4 HTake hS
      obtain ⟨K, S, V⟩ := xx
      obtain ⟨hS0, hS1⟩ := hS
      simp only at c0 c1 c2 c3 c4 HTake hS0 hS1
      have bA : Below w.heap.size w (wr.alloc (.cells #[.int .i64 K, .string S, .int .i64 V.K, .int .i64 V.N, .string V.S] 63)) := hbel.alloc hbel.size _
      have hoA := hown.alloc (.cells #[.int .i64 K, .string S, .int .i64 V.K, .int .i64 V.N, .string V.S] 63)
      have HTA : Hid (Tab (wr.alloc (.cells #[.int .i64 K, .string S, .int .i64 V.K, .int .i64 V.N, .string V.S] 63))) := HTab.out.later bA (Nat.le_refl _)
      go_wp2_with fail
      refine (argText_any K S V _ hS0 hS1 HTA.out).mono ?_
      rintro e w3 ⟨rfl, hb3⟩
      generalize argT K S V = x at HTake
      have bel3 : Below w.heap.size w w3 := bA.trans (hb3.mono bA.size)
      have HO4 := hide ((ownsRow_below' hoA hb3).alloc (.cells #[.string x] 9))
      have HB4 := hide (bel3.alloc bel3.size (.cells #[.string x] 9))
      have HSrc := hide (src1A w3 x)
      clear hb3 hbel hown hoA bA HTA c0 c1 c2 c3 c4 bel3
      go_wp2_with (at_builtin; refine wpList_append_lies _ rfl (.tmp 19) (.tmp 23) 72 rfl w.heap.size 9 i0 (.string ⟨#[]⟩) 1 16 Tryz.underlying72 hi hz0 hz1 hz2 rfl (by omega) (.slice (some ⟨g, 0, none⟩) k c) k (cellsA (L.take k)) rfl HO4.out ⟨w3.heap.size, 0, none⟩ 1 1 [.string x] ?hx rfl HSrc.out (one1A x) (by omega) (by unfold maxLen; omega) (by omega) HB4.out.size _ rfl ?_)
      case hx => simp [Act.eval]
      intro g5 c5 w5 ho5 hg5 hat5 hlt5
      have HO5 : Hid (w5.ownsRow w.heap.size 9 1 (.slice (some ⟨g5, 0, none⟩) (k + 1) c5) (k + 1) (cellsA (L.take (k + 1)))) := by
        unfold Hid
        rw [← HTake.out]
        exact ho5
      have HB5 := hide (HB4.out.grown hg5 HB4.out.size (fun k hk => (HO4.out.lt k hk).1))
      clear ho5 hg5 hat5 hlt5 HO4 HSrc HB4
      go_wp2
      go_roundw
      case rel => exact ⟨k + 1, g5, c5, by omega, by go_num, rfl, HO5.out, HB5.out⟩
      case measure => simp [intOf]; omega
    · obtain rfl : k = n := by omega
      have HO : Hid (wr.ownsRow w.heap.size 9 1 (.slice (some ⟨g, 0, none⟩) k c) k (cellsA L)) := by
        have := hown
        rw [HN.out, List.take_length, ← HN.out] at this
        exact this
      have hcs := own_txsA HO.out
      obtain ⟨hgl, hkc⟩ := own_ltA HO.out
      have htl : (txsA L).length = k := by unfold txsA; rw [List.length_map, HN.out]
      have hjoin := Tryz.strings_Join g 0 c (txsA L) sep wr hcs hgl (by rw [htl]; omega) (by rw [htl]; exact hkc) HL.out
      rw [htl] at hjoin
      clear hown HO
      go_wp2_with fail
      refine hjoin.mono ?_
      rintro e w6 ⟨rfl, hb6⟩
      have B6 : Below w.heap.size w w6 := hbel.trans (hb6.mono hbel.size)
      go_wp2
      go_ret
      exact ⟨rfl, B6⟩

set_option maxRecDepth 100000 in
set_option maxHeartbeats 1600000 in
theorem namedTextA_any (kd : ByteArray) (a : Option Addr) (cap : Nat) (L : List A5) (sep y : ByteArray) (w : World) (hkd : kd.size ≤ 12) (hr : RdArg w a L) (hs : ∀ x ∈ L, x.fits) (hm : L.length ≤ 5) (ht : Tab w) (hy : y = ⟨(Lib.join ((txsA L).map (·.data.toList)) sep.data.toList).toArray⟩) (hlen : y.size ≤ 1000) :
    Calls Tryz.prog 72 #[.string kd, .slice a L.length cap, .func (.func 73) #[] #[], .string sep] w fun e w' =>
      e = .returned (.string (kd ++ ⟨#[40]⟩ ++ y ++ ⟨#[41]⟩)) ∧ Below w.heap.size w w' := by
  have hl2 : (Lib.join ((txsA L).map (·.data.toList)) sep.data.toList).length ≤ 1000 := by
    rw [hy] at hlen
    have h2 : (Lib.join ((txsA L).map (·.data.toList)) sep.data.toList).toArray.size ≤ 1000 := hlen
    simpa using h2
  have hj := joinArgs_any a cap L sep w hr hs hm ht (by omega)
  rw [← hy] at hj
  have HJ := hide hj
  clear hj hy
  have c40 : (ByteArray.mk #[40]).size = 1 := rfl
  have c41 : (ByteArray.mk #[41]).size = 1 := rfl
  have n0 : ¬ 9223372036854775807 < kd.size + 1 := by omega
  have m0 : kd.size + 1 ≤ 9223372036854775807 := by omega
  have n1 : ¬ 9223372036854775807 < kd.size + 1 + y.size := by omega
  have m1 : kd.size + 1 + y.size ≤ 9223372036854775807 := by omega
  have n2 : ¬ 9223372036854775807 < kd.size + 1 + y.size + 1 := by omega
  have m2 : kd.size + 1 + y.size + 1 ≤ 9223372036854775807 := by omega
  have n4 : ¬ 9223372036854775807 ≤ kd.size := by omega
  have m4 : kd.size < 9223372036854775807 := by omega
  have n5 : ¬ 9223372036854775807 ≤ kd.size + 1 + y.size := by omega
  have m5 : kd.size + 1 + y.size < 9223372036854775807 := by omega
  clear c40 c41
  go_enter Tryz.func72, Tryz.ntmps72
  go_wp2_with fail
  refine HJ.out.mono ?_
  rintro e w6 ⟨rfl, hb6⟩
  go_wp2
  go_ret
  exact ⟨ret_strA (by simp only [ByteArray.append_assoc]), hb6⟩

set_option maxRecDepth 100000 in
set_option maxHeartbeats 3200000 in
theorem implPatText_any (kd : ByteArray) (a : Option Addr) (cap : Nat) (L : List A5) (nt : Bool) (w : World) (hkd : kd.size ≤ maxLen) (hr : RdArg w a L) (hs : ∀ x ∈ L, x.fits) (hm : L.length ≤ 1048580) (ht : Tab w) :
    Calls Tryz.prog 34 #[.agg #[.string kd, .slice a L.length cap, .bool nt]] w fun e w' =>
      e = .returned (.string (patT kd L nt)) ∧ Below w.heap.size w w' := by
  have HTab := hide ht
  have HS := hide hs
  have b0 := below_al w (.cells #[.string kd, .slice a L.length cap, .bool nt] 58)
  have hX := boxk_new w #[.string kd, .slice a L.length cap, .bool nt] 58
  clear ht
  go_enter Tryz.func34, Tryz.ntmps34
  go_wp2_with fail
  refine (implPatOk_any kd a cap L nt _ hkd (hr.below b0) hs hm).mono ?_
  rintro e w1 ⟨rfl, hb1⟩
  have HX := hide (box_below hX hb1 (by simp))
  have hB1 : Below w.heap.size w w1 := b0.trans (hb1.mono b0.size)
  clear hb1 b0 hX hs
  cases hv : patB kd L
  · have HV := hide (patT_no (nt := nt) hv)
    clear hv
    go_wp2
    go_ret
    exact ⟨by rw [HV.out]; rfl, hB1⟩
  · obtain ⟨hn, h5, hok⟩ := patB_open hv
    have HV := hide (patT_yes (nt := nt) hv)
    have hkn := nameP_size hn
    have hjn := joinA_le hok
    clear hv hok hn hm
    obtain ⟨y, hy⟩ : ∃ y, y = (⟨(joinA L).toArray⟩ : ByteArray) := ⟨_, rfl⟩
    have hys : y.size ≤ 120 := by
      rw [hy]
      show (joinA L).toArray.size ≤ 120
      simp only [List.size_toArray]
      omega
    rw [← hy] at HV
    have HJ := hide (namedTextA_any kd a cap L ⟨#[44, 32]⟩ y w1 (by omega) (hr.below hB1) HS.out h5 (HTab.out.later hB1 (Nat.le_refl _)) (by rw [txsA_join]; exact hy) (by omega))
    obtain ⟨x0, x1, x2, -, -, -⟩ := box_cell HX.out
    have HXX := hide HX.out
    have c40 : (ByteArray.mk #[40]).size = 1 := rfl
    have c41 : (ByteArray.mk #[41]).size = 1 := rfl
    have HSz : Hid ((kd ++ ⟨#[40]⟩ ++ y ++ ⟨#[41]⟩ : ByteArray).size = kd.size + y.size + 2) := by unfold Hid; simp only [ByteArray.size_append, c40, c41]; omega
    clear hjn hy hr c40 c41
    go_wp2_with fail
    refine HJ.out.mono ?_
    rintro e w6 ⟨rfl, hb6⟩
    have hB6 : Below w.heap.size w w6 := hB1.trans (hb6.mono hB1.size)
    have t2 := boxk_cell (box_step HXX.out hb6) 2 _ rfl
    clear hb6 x0 x1 x2 HX HXX
    have hsz := HSz.out
    generalize hT : (kd ++ ⟨#[40]⟩ ++ y ++ ⟨#[41]⟩ : ByteArray) = tt at hsz ⊢
    have HT := hide hT
    clear hT
    cases nt
    · go_wp2
      go_ret
      exact ⟨ret_strA (by rw [HV.out, ← HT.out]; rfl), hB6⟩
    · go_wp2
      go_ret
      exact ⟨ret_strA (by rw [HV.out, ← HT.out]; unfold notT; simp only [if_true, ByteArray.append_assoc]), hB6⟩
end Go.Proofs.YtcfhpcbkdpgboaaGreatDoor
