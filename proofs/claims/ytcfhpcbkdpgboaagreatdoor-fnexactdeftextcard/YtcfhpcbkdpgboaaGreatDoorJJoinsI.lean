/-
  What the tested program's joined texts of patterns, conditions and acts are: joinT.
-/
import Derived.Test.YtcfhpcbkdpgboaaGreatDoorJoined4
import Derived.Test.YtcfhpcbkdpgboaaGreatDoorJPatTI
import Derived.Test.YtcfhpcbkdpgboaaGreatDoorJoined3
namespace Go.Proofs.YtcfhpcbkdpgboaaGreatDoor
open Go.RowKit
set_option linter.unusedVariables false

theorem own_txsT {W : World} {base g c n : Nat} {ts : List ByteArray} (h : W.ownsRow base 9 1 (.slice (some ⟨g, 0, none⟩) n c) n (valsS ts)) :
    ∀ (j : Nat) x, ts[j]? = some x → W.cell? ⟨g, 0 + j, none⟩ = some (.string x) := by
  intro j x hj
  have := h.cells (g := g) rfl j (.string x) (by unfold valsS; rw [List.getElem?_map, hj]; rfl)
  rwa [Addr.add_lit] at this

set_option maxRecDepth 100000 in
set_option maxHeartbeats 3200000 in
theorem joinP_any (a : Option Addr) (cap n : Nat) (L : List PE) (w : World) (hz : L.length = n) (hr : RdPatS w a L) (hs : ∀ v ∈ L, v.small) (hm : n ≤ 6) (ht : Tab w) :
    Calls Tryz.prog 33 #[.slice a n cap, .func (.func 34) #[] #[], .string ⟨#[44, 32]⟩] w fun e w' =>
      e = .returned (.string (joinT (L.map PE.txt))) ∧ Below w.heap.size w w' := by
  obtain ⟨i0, hi, hz0, hz1, hz2⟩ := info_parts infoStr
  have HTab := hide ht
  have HS := hide hs
  have HN := hide hz.symm
  have HL : Hid ((Lib.join ((L.map PE.txt).map (·.data.toList)) (ByteArray.mk #[44, 32]).data.toList).length ≤ 140737488355328) := by
    have h := joinT_size (M := 400) (L.map PE.txt) (fun t ht => by obtain ⟨p, _, rfl⟩ := List.mem_map.1 ht; exact patT_size p)
    rw [List.length_map, hz] at h
    have h3 : (Lib.join ((L.map PE.txt).map (·.data.toList)) (ByteArray.mk #[44, 32]).data.toList).length ≤ 402 * n := by simpa [joinT, ByteArray.size] using h
    exact Nat.le_trans h3 (by omega)
  have HJ : Hid (joinT (L.map PE.txt) = ⟨(Lib.join ((L.map PE.txt).map (·.data.toList)) (ByteArray.mk #[44, 32]).data.toList).toArray⟩) := rfl
  obtain ⟨tx, htx⟩ : ∃ tx, tx = joinT (L.map PE.txt) := ⟨_, rfl⟩
  rw [← htx] at HJ ⊢
  clear ht hs hz htx
  have hz3 : (i0.bytes * n) = 16 * n := by rw [hz2]
  go_enter Tryz.func33, Tryz.ntmps33
  go_wp2_with (at_make; refine wpList_make_own _ rfl _ _ 72 rfl w.heap.size 9 i0 (.string ⟨#[]⟩) 1 Tryz.underlying72 hi hz0 hz1 _ _ _ n rfl rfl (by omega) ?b2 ?b3 (Nat.le_refl _) ?_)
  case b2 => (try rw [hz2]); omega
  case b3 => unfold maxLen; omega
  intro w2 ho2 hg2
  have b2 : Below w.heap.size w w2 := below_gn' hg2
  clear hg2
  go_wp2
  go_loopw [7, 15] (fun v i wr => ∃ (k g c : Nat), k ≤ n ∧ i = .int .i64 k ∧ v = .slice (some ⟨g, 0, none⟩) k c ∧ wr.ownsRow w.heap.size 9 1 (.slice (some ⟨g, 0, none⟩) k c) k (valsS ((L.take k).map PE.txt)) ∧ Below w.heap.size w wr) (fun _ i _ => n - (intOf i).toNat)
  case atStart => exact ⟨0, w.heap.size, n, Nat.zero_le _, rfl, rfl, by rw [List.take_zero]; exact ho2, b2⟩
  case round =>
    clear ho2 b2
    obtain ⟨k, g, c, hk, rfl, rfl, hown, hbel⟩ := hrel
    by_cases hlt : k < n
    · have hlL : k < L.length := by rw [← HN.out]; exact hlt
      obtain ⟨b, off, hab, hbw, hc⟩ := (hr.below hbel).cells (by omega)
      obtain ⟨c0, c1, c2, hin⟩ := hc k hlL
      clear hc
      subst hab
      have HTake : Hid (valsS ((L.take k).map PE.txt) ++ [.string (eAt L k).txt] = valsS ((L.take (k + 1)).map PE.txt)) := by unfold Hid; rw [valsS_snoc, List.take_succ_eq_append_getElem hlL, eAt_in hlL, List.map_append]; rfl
      have hS := HS.out _ (eAt_mem hlL)
      have HIn := hide hin
      clear hin
      generalize eAt L k = y at c0 c1 c2 HTake hS HIn
      have bA : Below w.heap.size w (wr.alloc (.cells #[.string y.kd, .slice y.a y.L.length y.cap, .bool y.nt] 58)) := hbel.alloc hbel.size _
      have bX := below_al wr (.cells #[.string y.kd, .slice y.a y.L.length y.cap, .bool y.nt] 58)
      have hoA := hown.alloc (.cells #[.string y.kd, .slice y.a y.L.length y.cap, .bool y.nt] 58)
      have HTA : Hid (Tab (wr.alloc (.cells #[.string y.kd, .slice y.a y.L.length y.cap, .bool y.nt] 58))) := HTab.out.later bA (Nat.le_refl _)
      go_wp2_with fail
      refine (implPatText_any y.kd y.a y.cap y.L y.nt _ (Nat.le_trans hS.1 (by unfold maxLen; omega)) (HIn.out.below bX) (fun v hv => fits_of (hS.2.2 v hv)) (Nat.le_trans hS.2.1 (by omega)) HTA.out).mono ?_
      rintro e w3 ⟨rfl, hb3⟩
      rw [show patT y.kd y.L y.nt = y.txt from rfl]
      generalize y.txt = x at HTake
      have bel3 : Below w.heap.size w w3 := bA.trans (hb3.mono bA.size)
      have HO4 := hide ((ownsRow_below' hoA hb3).alloc (.cells #[.string x] 9))
      have HB4 := hide (bel3.alloc bel3.size (.cells #[.string x] 9))
      have HSrc := hide (srcS w3 x)
      clear hb3 hbel hown hoA bA bX HTA c0 c1 c2 bel3
      go_wp2_with (at_builtin; refine wpList_append_lies _ rfl (.tmp 19) (.tmp 23) 72 rfl w.heap.size 9 i0 (.string ⟨#[]⟩) 1 16 Tryz.underlying72 hi hz0 hz1 hz2 rfl (by omega) (.slice (some ⟨g, 0, none⟩) k c) k (valsS ((L.take k).map PE.txt)) rfl HO4.out ⟨w3.heap.size, 0, none⟩ 1 1 [.string x] ?hx rfl HSrc.out (oneS x) (by omega) (by unfold maxLen; omega) (by omega) HB4.out.size _ rfl ?_)
      case hx => simp [Act.eval]
      intro g5 c5 w5 ho5 hg5 hat5 hlt5
      have HO5 : Hid (w5.ownsRow w.heap.size 9 1 (.slice (some ⟨g5, 0, none⟩) (k + 1) c5) (k + 1) (valsS ((L.take (k + 1)).map PE.txt))) := by
        unfold Hid
        rw [← HTake.out, List.map_take]
        exact ho5
      have HB5 := hide (HB4.out.grown hg5 HB4.out.size (fun k hk => (HO4.out.lt k hk).1))
      clear ho5 hg5 hat5 hlt5 HO4 HSrc HB4
      go_wp2
      go_roundw
      case rel => exact ⟨k + 1, g5, c5, by omega, by go_num, rfl, HO5.out, HB5.out⟩
      case measure => simp [intOf]; omega
    · obtain rfl : k = n := by omega
      have HO : Hid (wr.ownsRow w.heap.size 9 1 (.slice (some ⟨g, 0, none⟩) k c) k (valsS (L.map PE.txt))) := by
        have := hown
        rw [HN.out, List.take_length, ← HN.out] at this
        exact this
      have hcs := own_txsT HO.out
      obtain ⟨hgl, hkc⟩ := own_ltA HO.out
      have htl : (L.map PE.txt).length = k := by rw [List.length_map, HN.out]
      have hjoin := Tryz.strings_Join g 0 c (L.map PE.txt) ⟨#[44, 32]⟩ wr hcs hgl (by rw [htl]; omega) (by rw [htl]; exact hkc) HL.out
      rw [htl, ← HJ.out] at hjoin
      clear hown HO
      go_wp2_with fail
      refine hjoin.mono ?_
      rintro e w6 ⟨rfl, hb6⟩
      have B6 : Below w.heap.size w w6 := hbel.trans (hb6.mono hbel.size)
      go_wp2
      go_ret
      exact ⟨rfl, B6⟩

set_option maxRecDepth 100000 in
set_option maxHeartbeats 3200000 in
theorem joinC_any (a : Option Addr) (cap n : Nat) (L : List C11) (w : World) (hz : L.length = n) (hr : RdCond w a L) (hs : ∀ v ∈ L, v.small) (hm : n ≤ 6) (ht : Tab w) :
    Calls Tryz.prog 35 #[.slice a n cap, .func (.func 36) #[] #[], .string ⟨#[44, 32]⟩] w fun e w' =>
      e = .returned (.string (joinT (L.map C11.txt))) ∧ Below w.heap.size w w' := by
  obtain ⟨i0, hi, hz0, hz1, hz2⟩ := info_parts infoStr
  have HTab := hide ht
  have HS := hide hs
  have HN := hide hz.symm
  have HL : Hid ((Lib.join ((L.map C11.txt).map (·.data.toList)) (ByteArray.mk #[44, 32]).data.toList).length ≤ 140737488355328) := by
    have h := joinT_size (M := 400) (L.map C11.txt) (fun t ht => by obtain ⟨p, _, rfl⟩ := List.mem_map.1 ht; exact condT_size p)
    rw [List.length_map, hz] at h
    have h3 : (Lib.join ((L.map C11.txt).map (·.data.toList)) (ByteArray.mk #[44, 32]).data.toList).length ≤ 402 * n := by simpa [joinT, ByteArray.size] using h
    exact Nat.le_trans h3 (by omega)
  have HJ : Hid (joinT (L.map C11.txt) = ⟨(Lib.join ((L.map C11.txt).map (·.data.toList)) (ByteArray.mk #[44, 32]).data.toList).toArray⟩) := rfl
  obtain ⟨tx, htx⟩ : ∃ tx, tx = joinT (L.map C11.txt) := ⟨_, rfl⟩
  rw [← htx] at HJ ⊢
  clear ht hs hz htx
  have hz3 : (i0.bytes * n) = 16 * n := by rw [hz2]
  go_enter Tryz.func35, Tryz.ntmps35
  go_wp2_with (at_make; refine wpList_make_own _ rfl _ _ 72 rfl w.heap.size 9 i0 (.string ⟨#[]⟩) 1 Tryz.underlying72 hi hz0 hz1 _ _ _ n rfl rfl (by omega) ?b2 ?b3 (Nat.le_refl _) ?_)
  case b2 => (try rw [hz2]); omega
  case b3 => unfold maxLen; omega
  intro w2 ho2 hg2
  have b2 : Below w.heap.size w w2 := below_gn' hg2
  clear hg2
  go_wp2
  go_loopw [7, 15] (fun v i wr => ∃ (k g c : Nat), k ≤ n ∧ i = .int .i64 k ∧ v = .slice (some ⟨g, 0, none⟩) k c ∧ wr.ownsRow w.heap.size 9 1 (.slice (some ⟨g, 0, none⟩) k c) k (valsS ((L.take k).map C11.txt)) ∧ Below w.heap.size w wr) (fun _ i _ => n - (intOf i).toNat)
  case atStart => exact ⟨0, w.heap.size, n, Nat.zero_le _, rfl, rfl, by rw [List.take_zero]; exact ho2, b2⟩
  case round =>
    clear ho2 b2
    obtain ⟨k, g, c, hk, rfl, rfl, hown, hbel⟩ := hrel
    by_cases hlt : k < n
    · have hlL : k < L.length := by rw [← HN.out]; exact hlt
      obtain ⟨b, off, hab, hbw, hc⟩ := RdCond.cells (RdK.below hr hbel) (by omega)
      obtain ⟨c0, c1, c2, c3, c4, c5, c6, c7, c8, c9, c10⟩ := hc k hlL
      clear hc
      subst hab
      have HTake : Hid (valsS ((L.take k).map C11.txt) ++ [.string (eAt L k).txt] = valsS ((L.take (k + 1)).map C11.txt)) := by unfold Hid; rw [valsS_snoc, List.take_succ_eq_append_getElem hlL, eAt_in hlL, List.map_append]; rfl
      have hS := HS.out _ (eAt_mem hlL)
      generalize eAt L k = y at c0 c1 c2 c3 c4 c5 c6 c7 c8 c9 c10 HTake hS
      have bA : Below w.heap.size w (wr.alloc (.cells #[.int .i64 y.Op, .int .i64 y.L.K, .string y.L.S, .int .i64 y.L.V.K, .int .i64 y.L.V.N, .string y.L.V.S, .int .i64 y.R.K, .string y.R.S, .int .i64 y.R.V.K, .int .i64 y.R.V.N, .string y.R.V.S] 65)) := hbel.alloc hbel.size _
      have bX := below_al wr (.cells #[.int .i64 y.Op, .int .i64 y.L.K, .string y.L.S, .int .i64 y.L.V.K, .int .i64 y.L.V.N, .string y.L.V.S, .int .i64 y.R.K, .string y.R.S, .int .i64 y.R.V.K, .int .i64 y.R.V.N, .string y.R.V.S] 65)
      have hoA := hown.alloc (.cells #[.int .i64 y.Op, .int .i64 y.L.K, .string y.L.S, .int .i64 y.L.V.K, .int .i64 y.L.V.N, .string y.L.V.S, .int .i64 y.R.K, .string y.R.S, .int .i64 y.R.V.K, .int .i64 y.R.V.N, .string y.R.V.S] 65)
      have HTA : Hid (Tab (wr.alloc (.cells #[.int .i64 y.Op, .int .i64 y.L.K, .string y.L.S, .int .i64 y.L.V.K, .int .i64 y.L.V.N, .string y.L.V.S, .int .i64 y.R.K, .string y.R.S, .int .i64 y.R.V.K, .int .i64 y.R.V.N, .string y.R.V.S] 65))) := HTab.out.later bA (Nat.le_refl _)
      go_wp2_with fail
      refine (implCondText_any y.Op y.L y.R _ (fits_of hS.1) (fits_of hS.2) HTA.out).mono ?_
      rintro e w3 ⟨rfl, hb3⟩
      rw [show condT y.Op y.L y.R = y.txt from rfl]
      generalize y.txt = x at HTake
      have bel3 : Below w.heap.size w w3 := bA.trans (hb3.mono bA.size)
      have HO4 := hide ((ownsRow_below' hoA hb3).alloc (.cells #[.string x] 9))
      have HB4 := hide (bel3.alloc bel3.size (.cells #[.string x] 9))
      have HSrc := hide (srcS w3 x)
      clear hb3 hbel hown hoA bA bX HTA c0 c1 c2 c3 c4 c5 c6 c7 c8 c9 c10 bel3
      go_wp2_with (at_builtin; refine wpList_append_lies _ rfl (.tmp 19) (.tmp 23) 72 rfl w.heap.size 9 i0 (.string ⟨#[]⟩) 1 16 Tryz.underlying72 hi hz0 hz1 hz2 rfl (by omega) (.slice (some ⟨g, 0, none⟩) k c) k (valsS ((L.take k).map C11.txt)) rfl HO4.out ⟨w3.heap.size, 0, none⟩ 1 1 [.string x] ?hx rfl HSrc.out (oneS x) (by omega) (by unfold maxLen; omega) (by omega) HB4.out.size _ rfl ?_)
      case hx => simp [Act.eval]
      intro g5 c5 w5 ho5 hg5 hat5 hlt5
      have HO5 : Hid (w5.ownsRow w.heap.size 9 1 (.slice (some ⟨g5, 0, none⟩) (k + 1) c5) (k + 1) (valsS ((L.take (k + 1)).map C11.txt))) := by
        unfold Hid
        rw [← HTake.out, List.map_take]
        exact ho5
      have HB5 := hide (HB4.out.grown hg5 HB4.out.size (fun k hk => (HO4.out.lt k hk).1))
      clear ho5 hg5 hat5 hlt5 HO4 HSrc HB4
      go_wp2
      go_roundw
      case rel => exact ⟨k + 1, g5, c5, by omega, by go_num, rfl, HO5.out, HB5.out⟩
      case measure => simp [intOf]; omega
    · obtain rfl : k = n := by omega
      have HO : Hid (wr.ownsRow w.heap.size 9 1 (.slice (some ⟨g, 0, none⟩) k c) k (valsS (L.map C11.txt))) := by
        have := hown
        rw [HN.out, List.take_length, ← HN.out] at this
        exact this
      have hcs := own_txsT HO.out
      obtain ⟨hgl, hkc⟩ := own_ltA HO.out
      have htl : (L.map C11.txt).length = k := by rw [List.length_map, HN.out]
      have hjoin := Tryz.strings_Join g 0 c (L.map C11.txt) ⟨#[44, 32]⟩ wr hcs hgl (by rw [htl]; omega) (by rw [htl]; exact hkc) HL.out
      rw [htl, ← HJ.out] at hjoin
      clear hown HO
      go_wp2_with fail
      refine hjoin.mono ?_
      rintro e w6 ⟨rfl, hb6⟩
      have B6 : Below w.heap.size w w6 := hbel.trans (hb6.mono hbel.size)
      go_wp2
      go_ret
      exact ⟨rfl, B6⟩

set_option maxRecDepth 100000 in
set_option maxHeartbeats 3200000 in
theorem joinQ_any (a : Option Addr) (cap n : Nat) (L : List QE) (w : World) (hz : L.length = n) (hr : RdActS w a L) (hs : ∀ v ∈ L, v.small) (hm : n ≤ 6) (ht : Tab w) (hw : Wrd w) :
    Calls Tryz.prog 37 #[.slice a n cap, .func (.func 38) #[] #[], .string ⟨#[44, 32]⟩] w fun e w' =>
      e = .returned (.string (joinT (L.map QE.txt))) ∧ Below w.heap.size w w' := by
  obtain ⟨i0, hi, hz0, hz1, hz2⟩ := info_parts infoStr
  have HTab := hide ht
  have HS := hide hs
  have HN := hide hz.symm
  have HL : Hid ((Lib.join ((L.map QE.txt).map (·.data.toList)) (ByteArray.mk #[44, 32]).data.toList).length ≤ 140737488355328) := by
    have h := joinT_size (M := 400) (L.map QE.txt) (fun t ht => by obtain ⟨p, _, rfl⟩ := List.mem_map.1 ht; exact actT_size p)
    rw [List.length_map, hz] at h
    have h3 : (Lib.join ((L.map QE.txt).map (·.data.toList)) (ByteArray.mk #[44, 32]).data.toList).length ≤ 402 * n := by simpa [joinT, ByteArray.size] using h
    exact Nat.le_trans h3 (by omega)
  have HJ : Hid (joinT (L.map QE.txt) = ⟨(Lib.join ((L.map QE.txt).map (·.data.toList)) (ByteArray.mk #[44, 32]).data.toList).toArray⟩) := rfl
  obtain ⟨tx, htx⟩ : ∃ tx, tx = joinT (L.map QE.txt) := ⟨_, rfl⟩
  rw [← htx] at HJ ⊢
  clear ht hs hz htx
  have hz3 : (i0.bytes * n) = 16 * n := by rw [hz2]
  go_enter Tryz.func37, Tryz.ntmps37
  go_wp2_with (at_make; refine wpList_make_own _ rfl _ _ 72 rfl w.heap.size 9 i0 (.string ⟨#[]⟩) 1 Tryz.underlying72 hi hz0 hz1 _ _ _ n rfl rfl (by omega) ?b2 ?b3 (Nat.le_refl _) ?_)
  case b2 => (try rw [hz2]); omega
  case b3 => unfold maxLen; omega
  intro w2 ho2 hg2
  have b2 : Below w.heap.size w w2 := below_gn' hg2
  clear hg2
  go_wp2
  go_loopw [7, 15] (fun v i wr => ∃ (k g c : Nat), k ≤ n ∧ i = .int .i64 k ∧ v = .slice (some ⟨g, 0, none⟩) k c ∧ wr.ownsRow w.heap.size 9 1 (.slice (some ⟨g, 0, none⟩) k c) k (valsS ((L.take k).map QE.txt)) ∧ Below w.heap.size w wr) (fun _ i _ => n - (intOf i).toNat)
  case atStart => exact ⟨0, w.heap.size, n, Nat.zero_le _, rfl, rfl, by rw [List.take_zero]; exact ho2, b2⟩
  case round =>
    clear ho2 b2
    obtain ⟨k, g, c, hk, rfl, rfl, hown, hbel⟩ := hrel
    by_cases hlt : k < n
    · have hlL : k < L.length := by rw [← HN.out]; exact hlt
      obtain ⟨b, off, hab, hbw, hc⟩ := (hr.below hbel).cells (by omega)
      obtain ⟨c0, c1, c2, c3, c4, hin⟩ := hc k hlL
      clear hc
      subst hab
      have HTake : Hid (valsS ((L.take k).map QE.txt) ++ [.string (eAt L k).txt] = valsS ((L.take (k + 1)).map QE.txt)) := by unfold Hid; rw [valsS_snoc, List.take_succ_eq_append_getElem hlL, eAt_in hlL, List.map_append]; rfl
      have hS := HS.out _ (eAt_mem hlL)
      have HIn := hide hin
      clear hin
      generalize eAt L k = y at c0 c1 c2 c3 c4 HTake hS HIn
      have bA : Below w.heap.size w (wr.alloc (.cells #[.int .i64 y.K, .string y.nm, .slice y.a y.L.length y.cap, .int .i64 y.N, .string y.un] 69)) := hbel.alloc hbel.size _
      have bX := below_al wr (.cells #[.int .i64 y.K, .string y.nm, .slice y.a y.L.length y.cap, .int .i64 y.N, .string y.un] 69)
      have hoA := hown.alloc (.cells #[.int .i64 y.K, .string y.nm, .slice y.a y.L.length y.cap, .int .i64 y.N, .string y.un] 69)
      have HTA : Hid (Tab (wr.alloc (.cells #[.int .i64 y.K, .string y.nm, .slice y.a y.L.length y.cap, .int .i64 y.N, .string y.un] 69))) := HTab.out.later bA (Nat.le_refl _)
      have HWA : Hid (Wrd (wr.alloc (.cells #[.int .i64 y.K, .string y.nm, .slice y.a y.L.length y.cap, .int .i64 y.N, .string y.un] 69))) := (hw.later hbel).later bX
      go_wp2_with fail
      refine (implActText_any y.K y.nm y.a y.cap y.L y.N y.un _ (Nat.le_trans hS.1 (by unfold maxLen; omega)) (HIn.out.below bX) (fun v hv => by obtain ⟨g0, g1, g2⟩ := hS.2.2.2 v hv; exact ⟨Nat.le_trans g0 (by unfold maxLen; omega), fits_of g1, fits_of g2⟩) (Nat.le_trans hS.2.2.1 (by omega)) (Nat.le_trans hS.2.1 (by unfold maxLen; omega)) HTA.out HWA.out).mono ?_
      rintro e w3 ⟨rfl, hb3⟩
      rw [show actT y.K y.nm y.L y.N y.un = y.txt from rfl]
      generalize y.txt = x at HTake
      have bel3 : Below w.heap.size w w3 := bA.trans (hb3.mono bA.size)
      have HO4 := hide ((ownsRow_below' hoA hb3).alloc (.cells #[.string x] 9))
      have HB4 := hide (bel3.alloc bel3.size (.cells #[.string x] 9))
      have HSrc := hide (srcS w3 x)
      clear hb3 hbel hown hoA bA bX HTA c0 c1 c2 c3 c4 bel3
      go_wp2_with (at_builtin; refine wpList_append_lies _ rfl (.tmp 19) (.tmp 23) 72 rfl w.heap.size 9 i0 (.string ⟨#[]⟩) 1 16 Tryz.underlying72 hi hz0 hz1 hz2 rfl (by omega) (.slice (some ⟨g, 0, none⟩) k c) k (valsS ((L.take k).map QE.txt)) rfl HO4.out ⟨w3.heap.size, 0, none⟩ 1 1 [.string x] ?hx rfl HSrc.out (oneS x) (by omega) (by unfold maxLen; omega) (by omega) HB4.out.size _ rfl ?_)
      case hx => simp [Act.eval]
      intro g5 c5 w5 ho5 hg5 hat5 hlt5
      have HO5 : Hid (w5.ownsRow w.heap.size 9 1 (.slice (some ⟨g5, 0, none⟩) (k + 1) c5) (k + 1) (valsS ((L.take (k + 1)).map QE.txt))) := by
        unfold Hid
        rw [← HTake.out, List.map_take]
        exact ho5
      have HB5 := hide (HB4.out.grown hg5 HB4.out.size (fun k hk => (HO4.out.lt k hk).1))
      clear ho5 hg5 hat5 hlt5 HO4 HSrc HB4
      go_wp2
      go_roundw
      case rel => exact ⟨k + 1, g5, c5, by omega, by go_num, rfl, HO5.out, HB5.out⟩
      case measure => simp [intOf]; omega
    · obtain rfl : k = n := by omega
      have HO : Hid (wr.ownsRow w.heap.size 9 1 (.slice (some ⟨g, 0, none⟩) k c) k (valsS (L.map QE.txt))) := by
        have := hown
        rw [HN.out, List.take_length, ← HN.out] at this
        exact this
      have hcs := own_txsT HO.out
      obtain ⟨hgl, hkc⟩ := own_ltA HO.out
      have htl : (L.map QE.txt).length = k := by rw [List.length_map, HN.out]
      have hjoin := Tryz.strings_Join g 0 c (L.map QE.txt) ⟨#[44, 32]⟩ wr hcs hgl (by rw [htl]; omega) (by rw [htl]; exact hkc) HL.out
      rw [htl, ← HJ.out] at hjoin
      clear hown HO
      go_wp2_with fail
      refine hjoin.mono ?_
      rintro e w6 ⟨rfl, hb6⟩
      have B6 : Below w.heap.size w w6 := hbel.trans (hb6.mono hbel.size)
      go_wp2
      go_ret
      exact ⟨rfl, B6⟩

end Go.Proofs.YtcfhpcbkdpgboaaGreatDoor
