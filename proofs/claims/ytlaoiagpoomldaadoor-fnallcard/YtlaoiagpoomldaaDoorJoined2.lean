/-
  Texts of this claim joined into one: Clone, BindOf, ArgVal, Cmp, Less, LessI, HoldsP, HoldsI, HoldsS, HoldAll, Bytes, Bits, Draw, Num, Enc, DrawB, DrawV, DrawS, LawVal, LawEq, LawFact, LawArg, DrawAr, LawCond, DrawCd, LawBind, Src4, DrawP, DrawCa, DrawHa.
-/
import Derived.Test.YtlaoiagpoomldaaDoorShelf
import Derived.Test.YtlaoiagpoomldaaDoorJoined1
import Derived.Handy
import Derived.Deep.RegionWith
import Derived.Deep.QuietTactic
import Derived.BigQuiet
import Derived.Deep.RegionHeld3
import Derived.Deep.DeepCutAuto
import Derived.OpenShut
import Derived.Laws.BitsAllLaws
import Derived.Deep.AppendLies
import Derived.Deep.RegionLaw
/-
  A text copied, a value copied: the same.
-/
namespace Go.Proofs.YtlaoiagpoomldaaDoor
open Go.RowKit
set_option linter.unusedVariables false

set_option maxRecDepth 100000 in
theorem cloneS_any (s : ByteArray) (w : World) (hs : s.size ≤ 1048580) :
    Calls Tryd.prog 39 #[.string s] w fun e w' => e = .returned (.string s) ∧ Below w.heap.size w w' := by
  go_enter Tryd.func39, Tryd.ntmps39
  go_wp2_with fail
  refine (Tryd.stringslite_Clone s _ (by omega)).mono ?_
  rintro e w1 ⟨rfl, hb⟩
  go_wp2
  go_ret
  exact ⟨rfl, hb⟩
theorem two_boxes {w w' : World} {o : Obj} {cs : Array Value} {T : TypeId} (hb : Below ((w.alloc o).alloc (.cells cs T)).drew.heap.size ((w.alloc o).alloc (.cells cs T)).drew w') :
    w'.heap[w.heap.size + 1]? = some (.cells cs T (0, 0)) ∧ Below w.heap.size w w' := by
  have h0 := boxk_new (w.alloc o) cs T
  have b0 := below_al w o
  have b1 := b0.alloc b0.size (.cells cs T)
  rw [World.size_alloc] at h0
  refine ⟨box_below (w := ((w.alloc o).alloc (.cells cs T)).drew) h0 hb (by show _ < ((w.alloc o).alloc (.cells cs T)).heap.size; simp), b1.drew.trans (hb.mono ?_)⟩
  show _ ≤ ((w.alloc o).alloc (.cells cs T)).heap.size
  simp; omega
set_option maxRecDepth 100000 in
set_option maxHeartbeats 1600000 in
theorem copyVal_any (K N : Int) (S : ByteArray) (w : World) (hs : S.size ≤ 1048580) :
    Calls Tryd.prog 27 #[.agg #[.int .i64 K, .int .i64 N, .string S]] w fun e w' => e = .returned (.agg #[.int .i64 K, .int .i64 N, .string S]) ∧ Below w.heap.size w w' := by
  go_enter Tryd.func27, Tryd.ntmps27
  go_wp2
  go_region_with (go_at_call 39; refine (cloneS_any _ _ hs).mono ?_; rintro e w' ⟨rfl, hb⟩; obtain ⟨hc, hf⟩ := bcell hb)
  all_goals go_wp2
  all_goals
    obtain ⟨hR, hB⟩ := two_boxes hb
    clear hc hf hb
    refine box_post hR (fun w4 h4 gr => ?_)
    obtain ⟨c0, c1, c2, -, -, -⟩ := box_cell h4
    exact bodyPost_ret (v := .agg #[.int .i64 K, .int .i64 N, .string S]) (by simp [results, Tryd.results27, go_sem, c0, c1, c2]) rfl ⟨rfl, below_set hB gr (by omega)⟩
end Go.Proofs.YtlaoiagpoomldaaDoor
/-
  What both BindOfs answer: bindA.
-/
namespace Go.Proofs.YtlaoiagpoomldaaDoor
open Go.RowKit
set_option linter.unusedVariables false

theorem beq_ne {a b : ByteArray} (h : a ≠ b) : (a.toList == b.toList) = false := by
  simp only [beq_eq_false_iff_ne, ne_eq]
  exact fun e => h (toList_inj e)

set_option maxRecDepth 100000 in
set_option maxHeartbeats 1600000 in
theorem implBindOf_any (a : Option Addr) (cap : Nat) (L : List B4) (nm : ByteArray) (w : World) (hr : RdBind w a L) (hs : ∀ x ∈ L, x.small) (hm : L.length ≤ 2097152) :
    Calls Tryd.prog 26 #[.slice a L.length cap, .string nm] w fun e w' => e = .returned (bindA (bindO L nm)) ∧ Below w.heap.size w w' := by
  obtain ⟨n, hN⟩ : ∃ n, n = L.length := ⟨_, rfl⟩
  rw [← hN] at hm ⊢
  have HN := hide hN
  have HS := hide hs
  clear hN hs
  have b0 := below_al w (.cells #[.int .i64 0, .int .i64 0, .string ⟨#[]⟩] 30)
  have HR := hide (boxk_new w #[.int .i64 0, .int .i64 0, .string ⟨#[]⟩] 30)
  have r1 := hr.below b0
  go_enter Tryd.func26, Tryd.ntmps26
  go_wp2
  generalize hW : w.alloc (.cells #[.int .i64 0, .int .i64 0, .string ⟨#[]⟩] 30) = w0 at b0 HR r1
  have hq : w.heap.size < w0.heap.size := by rw [← hW]; simp
  clear hW hr
  go_loopw [10] (fun i wr => ∃ (k : Nat), k ≤ n ∧ i = .int .i64 k ∧ (∀ j, j < k → (eAt L j).N ≠ nm) ∧ Below w0.heap.size w0 wr) (fun i _ => n - (intOf i).toNat)
  case atStart => exact ⟨0, Nat.zero_le _, rfl, fun j hj => absurd hj (Nat.not_lt_zero _), Below.refl _ _⟩
  case round =>
    obtain ⟨k, hk, rfl, hall, hbel⟩ := hrel
    have HA := hide hall
    clear hall
    have hB : Below w.heap.size w wr := b0.trans (hbel.mono b0.size)
    have HR1 := hide (box_below HR.out hbel hq)
    by_cases hlt : k < n
    · obtain ⟨b, off, hab, hbw, hc⟩ := RdBind.cells r1 (by rw [← HN.out]; omega)
      obtain ⟨c0, c1, c2, c3⟩ := hc k (by rw [← HN.out]; exact hlt)
      clear hc
      subst hab
      rw [← hbel.cell (p := ⟨b, off + k * 4, none⟩) hbw] at c0
      rw [← hbel.cell (p := ⟨b, off + k * 4 + 1, none⟩) hbw] at c1
      rw [← hbel.cell (p := ⟨b, off + k * 4 + 2, none⟩) hbw] at c2
      rw [← hbel.cell (p := ⟨b, off + k * 4 + 3, none⟩) hbw] at c3
      have hS : (eAt L k).small := by rw [eAt_in (by rw [← HN.out]; exact hlt)]; exact HS.out _ (List.getElem_mem _)
      by_cases he : (eAt L k).N = nm
      · have HV := hide (bindO_at (by rw [← HN.out]; exact hlt) HA.out he)
        rw [he] at c0
        have k1 : (nm.toList == nm.toList) = true := by simp
        clear he
        go_wp2_with fail
        refine (copyVal_any _ _ _ _ (by have := hS.2; omega)).mono ?_
        rintro e w2 ⟨rfl, hb2⟩
        have hqr := hbel.size
        have bA := hB.alloc hB.size (.cells #[.string nm, .int .i64 (eAt L k).V.K, .int .i64 (eAt L k).V.N, .string (eAt L k).V.S] 62)
        have HR2 := hide (box_below (box_old HR1.out (by omega) (.cells #[.string nm, .int .i64 (eAt L k).V.K, .int .i64 (eAt L k).V.N, .string (eAt L k).V.S] 62)) hb2 (by simp; omega))
        have B2 := bA.trans (hb2.mono bA.size)
        obtain ⟨q0, q1, q2, qf0, qf1, qf2⟩ := box_cell HR2.out
        clear hb2 bA c0 c1 c2 c3 hbel hB HR1
        go_wp2
        refine box_post HR2.out (fun w4 h4 gr => ?_)
        obtain ⟨d0, d1, d2, -, -, -⟩ := box_cell h4
        exact bodyPost_ret (v := bindA (some (eAt L k).V)) (by simp [bindA, results, Tryd.results26, go_sem, d0, d1, d2]) rfl ⟨by rw [HV.out], below_set B2 gr (Nat.le_refl _)⟩
      · have k1 := beq_ne he
        have HE := hide he
        clear he
        go_wp2
        go_roundw
        case rel => exact ⟨k + 1, by omega, by go_num, fun j hj => by
            by_cases hjk : j = k
            · rw [hjk]; exact HE.out
            · exact HA.out j (by omega), hbel.alloc hbel.size _⟩
        case measure => simp [intOf]; omega
    · have HV : Hid (bindO L nm = none) := bindO_none (fun j hj => HA.out j (by rw [← HN.out] at hj; omega))
      obtain ⟨q0, q1, q2, qf0, qf1, qf2⟩ := box_cell HR1.out
      go_wp2
      refine box_post HR1.out (fun w4 h4 gr => ?_)
      obtain ⟨d0, d1, d2, -, -, -⟩ := box_cell h4
      exact bodyPost_ret (v := bindA none) (by simp [bindA, results, Tryd.results26, go_sem, d0, d1, d2]) rfl ⟨by rw [HV.out], below_set hB gr (Nat.le_refl _)⟩
end Go.Proofs.YtlaoiagpoomldaaDoor
/-
  What both ArgVals answer: argV (the value, or what is bound to the variable).
-/
namespace Go.Proofs.YtlaoiagpoomldaaDoor
open Go.RowKit
set_option linter.unusedVariables false

/-- an argument's value, where there is one -/
def argV (K : Int) (S : ByteArray) (V : V3) (L : List B4) : Option V3 := if K = 1 then bindO L S else if K = 2 then some V else none
theorem argV1 (S : ByteArray) (V : V3) (L : List B4) : argV 1 S V L = bindO L S := by simp [argV]
theorem argV2 (S : ByteArray) (V : V3) (L : List B4) : argV 2 S V L = some V := by simp [argV]
theorem argV_no {K : Int} (S : ByteArray) (V : V3) (L : List B4) (h1 : K ≠ 1) (h2 : K ≠ 2) : argV K S V L = none := by simp [argV, h1, h2]
theorem boxv2 (w : World) (c1 : Array Value) (T1 : TypeId) (c2 : Array Value) (T2 : TypeId) : ((w.alloc (.cells c1 T1)).alloc (.cells c2 T2)).heap[w.heap.size + 1]? = some (.cells c2 T2 (0, 0)) ∧ Below w.heap.size w ((w.alloc (.cells c1 T1)).alloc (.cells c2 T2)) ∧ w.heap.size + 1 < ((w.alloc (.cells c1 T1)).alloc (.cells c2 T2)).heap.size := by
  have b0 := below_al w (.cells c1 T1)
  have b1 := b0.alloc b0.size (.cells c2 T2)
  have hX := boxk_new (w.alloc (.cells c1 T1)) c2 T2
  simp only [World.size_alloc] at hX
  exact ⟨hX, b1, by simp⟩

set_option maxRecDepth 100000 in
set_option maxHeartbeats 1600000 in
theorem implArgVal_any (K : Int) (S : ByteArray) (VK VN : Int) (VS : ByteArray) (a : Option Addr) (cap : Nat) (L : List B4) (w : World) (hv : VS.size ≤ 1048576) (hr : RdBind w a L) (hs : ∀ x ∈ L, x.small) (hm : L.length ≤ 2097152) :
    Calls Tryd.prog 15 #[.agg #[.int .i64 K, .string S, .int .i64 VK, .int .i64 VN, .string VS], .slice a L.length cap] w fun e w' => e = .returned (bindA (argV K S ⟨VK, VN, VS⟩ L)) ∧ Below w.heap.size w w' := by
  obtain ⟨hX, b1, hz⟩ := boxv2 w #[.int .i64 K, .string S, .int .i64 VK, .int .i64 VN, .string VS] 32 #[.int .i64 0, .int .i64 0, .string ⟨#[]⟩] 30
  by_cases h2 : K = 2
  · subst h2
    have HV := hide (argV2 S ⟨VK, VN, VS⟩ L)
    go_enter Tryd.func15, Tryd.ntmps15
    go_wp2_with fail
    refine (copyVal_any VK VN VS _ (by omega)).mono ?_
    rintro e w1 ⟨rfl, hb⟩
    have HX := hide (box_below hX hb hz)
    have hB : Below w.heap.size w w1 := b1.trans (hb.mono b1.size)
    clear hb hX b1 hz
    obtain ⟨r0, rr1, rr2, rf0, rf1, rf2⟩ := box_cell HX.out
    go_wp2
    refine box_post HX.out (fun w4 h4 gr => ?_)
    obtain ⟨d0, d1, d2, -, -, -⟩ := box_cell h4
    exact bodyPost_ret (v := bindA (some ⟨VK, VN, VS⟩)) (by simp [bindA, results, Tryd.results15, go_sem, d0, d1, d2]) rfl ⟨by rw [HV.out], below_set hB gr (by omega)⟩
  · by_cases h1 : K = 1
    · subst h1
      have HV := hide (argV1 S ⟨VK, VN, VS⟩ L)
      have r1 := hr.below b1
      have HS := hide hs
      clear hs
      go_enter Tryd.func15, Tryd.ntmps15
      go_wp2_with fail
      refine (implBindOf_any _ _ L S _ r1 HS.out hm).mono ?_
      rintro e w1 ⟨rfl, hb⟩
      have HX := hide (box_below hX hb hz)
      have hB : Below w.heap.size w w1 := b1.trans (hb.mono b1.size)
      clear hb hX b1 hz r1
      obtain ⟨K', N', S', bb, hA⟩ := bindA_form (bindO L S)
      rw [hA]
      have HA := hide hA
      clear hA
      obtain ⟨r0, rr1, rr2, rf0, rf1, rf2⟩ := box_cell HX.out
      go_wp2
      refine box_post HX.out (fun w4 h4 gr => ?_)
      obtain ⟨d0, d1, d2, -, -, -⟩ := box_cell h4
      exact bodyPost_ret (v := .tuple #[.agg #[.int .i64 K', .int .i64 N', .string S'], .bool bb]) (by simp [results, Tryd.results15, go_sem, d0, d1, d2]) rfl ⟨by rw [HV.out, HA.out], below_set hB gr (by omega)⟩
    · have HV := hide (argV_no S ⟨VK, VN, VS⟩ L h1 h2)
      clear hX b1 hz
      have k1 : (K == 1) = false := by simpa using h1
      have k2 : (K == 2) = false := by simpa using h2
      go_enter Tryd.func15, Tryd.ntmps15
      go_wp2
      rw [HV.out]
      go_returns
      exact ⟨rfl, by go_grown⟩
end Go.Proofs.YtlaoiagpoomldaaDoor
/-
  What the orders of numbers, texts and values answer.
-/
namespace Go.Proofs.YtlaoiagpoomldaaDoor
open Go.RowKit
set_option linter.unusedVariables false

def cmpI (x y : Int) : Int := if x < y then -1 else if y < x then 1 else 0
def cmpS (a b : ByteArray) : Int := if Op.bytesLess a.toList b.toList then -1 else if a.toList == b.toList then 0 else 1
def orI (a b c : Int) : Int := if a != 0 then a else if b != 0 then b else c

set_option maxHeartbeats 800000 in
theorem cmpInt_any (x y : Int) (w : World) :
    Calls Tryd.prog 49 #[.int .i64 x, .int .i64 y] w fun e w' => e = .returned (.int .i64 (cmpI x y)) ∧ w' = w := by
  by_cases h1 : x < y
  · have HC : Hid (cmpI x y = -1) := by unfold Hid cmpI; rw [if_pos h1]
    go_enter Tryd.func49, Tryd.ntmps49
    go_wp2
    go_ret
    exact ⟨ret_int HC.out.symm, rfl⟩
  · by_cases h2 : y < x
    · have HC : Hid (cmpI x y = 1) := by unfold Hid cmpI; rw [if_neg h1, if_pos h2]
      go_enter Tryd.func49, Tryd.ntmps49
      go_wp2
      go_ret
      exact ⟨ret_int HC.out.symm, rfl⟩
    · have HC : Hid (cmpI x y = 0) := by unfold Hid cmpI; rw [if_neg h1, if_neg h2]
      go_enter Tryd.func49, Tryd.ntmps49
      go_wp2
      go_ret
      exact ⟨ret_int HC.out.symm, rfl⟩

set_option maxHeartbeats 800000 in
theorem cmpString_any (x y : ByteArray) (w : World) :
    Calls Tryd.prog 50 #[.string x, .string y] w fun e w' => e = .returned (.int .i64 (cmpS x y)) ∧ w' = w := by
  have HC : Hid (cmpS x y = if Op.bytesLess x.toList y.toList then -1 else if x.toList == y.toList then 0 else 1) := rfl
  cases h1 : Op.bytesLess x.toList y.toList
  · cases h2 : (x.toList == y.toList)
    all_goals
      rw [h1, h2] at HC
      go_enter Tryd.func50, Tryd.ntmps50
      go_wp2
      go_ret
      exact ⟨ret_int HC.out.symm, rfl⟩
  · rw [h1] at HC
    go_enter Tryd.func50, Tryd.ntmps50
    go_wp2
    go_ret
    exact ⟨ret_int HC.out.symm, rfl⟩

set_option maxHeartbeats 800000 in
theorem cmpOr_any (q : Nat) (a b c : Int) (w : World) (h0 : w.cell? ⟨q, 0, none⟩ = some (.int .i64 a)) (h1 : w.cell? ⟨q, 1, none⟩ = some (.int .i64 b)) (h2 : w.cell? ⟨q, 2, none⟩ = some (.int .i64 c)) :
    Calls Tryd.prog 48 #[.slice (some ⟨q, 0, none⟩) 3 3] w fun e w' => e = .returned (.int .i64 (orI a b c)) ∧ w' = w := by
  have HC : Hid (orI a b c = if a != 0 then a else if b != 0 then b else c) := rfl
  cases ha : (a != 0)
  · cases hb : (b != 0)
    · cases hc : (c != 0)
      · have HZ : Hid (c = 0) := by unfold Hid; simpa using hc
        rw [ha, hb] at HC
        go_enter Tryd.func48, Tryd.ntmps48
        go_wp2
        go_rounds 4
        go_ret
        exact ⟨ret_int (by rw [HC.out, HZ.out]; rfl), rfl⟩
      · rw [ha, hb] at HC
        go_enter Tryd.func48, Tryd.ntmps48
        go_wp2
        go_rounds 4
        go_ret
        exact ⟨ret_int (by rw [HC.out]; rfl), rfl⟩
    · rw [ha, hb] at HC
      go_enter Tryd.func48, Tryd.ntmps48
      go_wp2
      go_rounds 3
      go_ret
      exact ⟨ret_int (by rw [HC.out]; rfl), rfl⟩
  · rw [ha] at HC
    go_enter Tryd.func48, Tryd.ntmps48
    go_wp2
    go_rounds 2
    go_ret
    exact ⟨ret_int (by rw [HC.out]; rfl), rfl⟩
end Go.Proofs.YtlaoiagpoomldaaDoor
/-
  What the order of values answers, the tested one and the model's alike: lessB; nothing that was there has turned.
-/
namespace Go.Proofs.YtlaoiagpoomldaaDoor
open Go.RowKit
set_option linter.unusedVariables false

def lessB (K N : Int) (S : ByteArray) (K' N' : Int) (S' : ByteArray) : Bool :=
  if K != K' then decide (K < K') else if N != N' then decide (N < N') else Op.bytesLess S.toList S'.toList

theorem new3 (w : World) (o1 o2 : Obj) (a b c : Value) (T : TypeId) : (((w.alloc o1).alloc o2).alloc (.cells #[a, b, c] T)).drew.heap[w.heap.size + 1 + 1]? = some (.cells #[a, b, c] T (0, 0)) := by
  have := box_new ((w.alloc o1).alloc o2) a b c T
  simp only [World.size_alloc] at this
  exact this
theorem new3_0 (w : World) (o1 o2 : Obj) (a b c : Value) (T : TypeId) : (((w.alloc o1).alloc o2).alloc (.cells #[a, b, c] T)).drew.cell? ⟨w.heap.size + 1 + 1, 0, none⟩ = some a := (box_cell (new3 w o1 o2 a b c T)).1
theorem new3_1 (w : World) (o1 o2 : Obj) (a b c : Value) (T : TypeId) : (((w.alloc o1).alloc o2).alloc (.cells #[a, b, c] T)).drew.cell? ⟨w.heap.size + 1 + 1, 1, none⟩ = some b := (box_cell (new3 w o1 o2 a b c T)).2.1
theorem new3_2 (w : World) (o1 o2 : Obj) (a b c : Value) (T : TypeId) : (((w.alloc o1).alloc o2).alloc (.cells #[a, b, c] T)).drew.cell? ⟨w.heap.size + 1 + 1, 2, none⟩ = some c := (box_cell (new3 w o1 o2 a b c T)).2.2.1

set_option maxRecDepth 100000 in
set_option maxHeartbeats 1600000 in
theorem compareVals_any (K N : Int) (S : ByteArray) (K' N' : Int) (S' : ByteArray) (w : World) :
    Calls Tryd.prog 40 #[.agg #[.int .i64 K, .int .i64 N, .string S], .agg #[.int .i64 K', .int .i64 N', .string S']] w fun e w' =>
      e = .returned (.int .i64 (orI (cmpI K K') (cmpI N N') (cmpS S S'))) ∧ Below w.heap.size w w' := by
  go_enter Tryd.func40, Tryd.ntmps40
  go_wp2_with fail
  go_region_held3 (fun w' => w'.cell? ⟨w.heap.size, 0, none⟩ = some (.int .i64 K) ∧ w'.cell? ⟨w.heap.size, 1, none⟩ = some (.int .i64 N) ∧ w'.cell? ⟨w.heap.size, 2, none⟩ = some (.string S) ∧ w'.cell? ⟨w.heap.size + 1, 0, none⟩ = some (.int .i64 K') ∧ w'.cell? ⟨w.heap.size + 1, 1, none⟩ = some (.int .i64 N') ∧ w'.cell? ⟨w.heap.size + 1, 2, none⟩ = some (.string S')) (go_keep)
    (first | (go_at_call 49; refine (cmpInt_any _ _ _).mono ?_; rintro e w' ⟨rfl, rfl⟩) | (go_at_call 50; refine (cmpString_any _ _ _).mono ?_; rintro e w' ⟨rfl, rfl⟩) | (go_at_call 48; refine (cmpOr_any _ _ _ _ _ (new3_0 _ _ _ _ _ _ _) (new3_1 _ _ _ _ _ _ _) (new3_2 _ _ _ _ _ _ _)).mono ?_; rintro e w' ⟨rfl, rfl⟩))
  all_goals go_wp2
  all_goals go_ret
  all_goals exact ⟨rfl, by go_grown⟩

theorem cmpI_neg (x y : Int) : (cmpI x y < 0 ↔ x < y) ∧ (cmpI x y = 0 ↔ x = y) := by
  unfold cmpI
  by_cases h1 : x < y
  · rw [if_pos h1]; omega
  · rw [if_neg h1]
    by_cases h2 : y < x
    · rw [if_pos h2]; omega
    · rw [if_neg h2]; omega
theorem cmpS_neg (a b : ByteArray) : (cmpS a b < 0) ↔ Op.bytesLess a.toList b.toList = true := by
  unfold cmpS
  cases Op.bytesLess a.toList b.toList
  · simp only [Bool.false_eq_true, if_false, iff_false]
    split <;> omega
  · simp
theorem cmpI_bne (x y : Int) : (cmpI x y != 0) = (x != y) := by
  have h := (cmpI_neg x y).2
  by_cases e : x = y
  · have h0 := h.2 e; rw [h0]; simp [e]
  · have h0 : cmpI x y ≠ 0 := fun h1 => e (h.1 h1)
    rw [bne_iff_ne.2 h0, bne_iff_ne.2 e]
theorem less_of (K N : Int) (S : ByteArray) (K' N' : Int) (S' : ByteArray) : decide (orI (cmpI K K') (cmpI N N') (cmpS S S') < 0) = lessB K N S K' N' S' := by
  have h1 := (cmpI_neg K K').1
  have h2 := (cmpI_neg N N').1
  have h3 := cmpS_neg S S'
  unfold orI lessB
  rw [cmpI_bne, cmpI_bne]
  cases (K != K')
  · cases (N != N')
    · cases hb : Op.bytesLess S.toList S'.toList
      · rw [hb] at h3; simpa using h3
      · rw [hb] at h3; simpa using h3
    · simpa using h2
  · simpa using h1

end Go.Proofs.YtlaoiagpoomldaaDoor
/-
  What the tested order of values answers: lessB.
-/
namespace Go.Proofs.YtlaoiagpoomldaaDoor
open Go.RowKit
set_option linter.unusedVariables false

set_option maxHeartbeats 800000 in
theorem implLessVal_any (K N : Int) (S : ByteArray) (K' N' : Int) (S' : ByteArray) (w : World) :
    Calls Tryd.prog 30 #[.agg #[.int .i64 K, .int .i64 N, .string S], .agg #[.int .i64 K', .int .i64 N', .string S']] w fun e w' =>
      e = .returned (.bool (lessB K N S K' N' S')) ∧ Below w.heap.size w w' := by
  have HL := hide (less_of K N S K' N' S')
  go_enter Tryd.func30, Tryd.ntmps30
  go_wp2_with fail
  refine (compareVals_any K N S K' N' S' _).mono ?_
  rintro e w1 ⟨rfl, hb1⟩
  have hB1 : Below w.heap.size w w1 := (((Below.refl w.heap.size w).alloc (Nat.le_refl _) _).alloc (by simp) _).trans (hb1.mono (by simp; omega))
  clear hb1
  generalize orI (cmpI K K') (cmpI N N') (cmpS S S') = r at HL ⊢
  go_wp2
  go_ret
  exact ⟨ret_bool HL.out, hB1⟩

end Go.Proofs.YtlaoiagpoomldaaDoor
/-
  When a condition holds, plainly.
-/
namespace Go.Proofs.YtlaoiagpoomldaaDoor
set_option linter.unusedVariables false

/-- whether a sign holds of two values -/
def holdB (Op : Int) (a b : V3) : Bool := if Op = 1 then decide (a = b) else if Op = 2 then !decide (a = b) else if Op = 3 then lessB a.K a.N a.S b.K b.N b.S else false
/-- whether a condition holds, of what its two arguments are -/
def holdsO (Op : Int) (o p : Option V3) : Bool := match o, p with
  | some a, some b => holdB Op a b
  | _, _ => false
theorem holdsO_none (Op : Int) (p : Option V3) : holdsO Op none p = false := by cases p <;> rfl
theorem holdsO_none2 (Op : Int) (o : Option V3) : holdsO Op o none = false := by cases o <;> rfl
theorem holdB1 (a b : V3) : holdB 1 a b = decide (a = b) := by simp [holdB]
theorem holdB2 (a b : V3) : holdB 2 a b = !decide (a = b) := by simp [holdB]
theorem holdB3 (a b : V3) : holdB 3 a b = lessB a.K a.N a.S b.K b.N b.S := by simp [holdB]
theorem holdB_no {Op : Int} (a b : V3) (h1 : Op ≠ 1) (h2 : Op ≠ 2) (h3 : Op ≠ 3) : holdB Op a b = false := by simp [holdB, h1, h2, h3]
theorem bindA_two (o : Option V3) : ∃ (v : V3) (b : Bool), bindA o = .tuple #[.agg #[.int .i64 v.K, .int .i64 v.N, .string v.S], .bool b] ∧ ((b = true ∧ o = some v) ∨ (b = false ∧ o = none)) := by
  cases o with
  | none => exact ⟨⟨0, 0, ⟨#[]⟩⟩, false, rfl, .inr ⟨rfl, rfl⟩⟩
  | some v => exact ⟨v, true, rfl, .inl ⟨rfl, rfl⟩⟩
end Go.Proofs.YtlaoiagpoomldaaDoor
/-
  What the tested Holds answers: holdsO.
-/
namespace Go.Proofs.YtlaoiagpoomldaaDoor
open Go.RowKit
set_option linter.unusedVariables false

set_option maxRecDepth 100000 in
set_option maxHeartbeats 800000 in
theorem sameVal_any (v u : V3) (w : World) :
    Calls Tryd.prog 28 #[.agg #[.int .i64 v.K, .int .i64 v.N, .string v.S], .agg #[.int .i64 u.K, .int .i64 u.N, .string u.S]] w fun e w' => e = .returned (.bool (decide (v = u))) ∧ Below w.heap.size w w' := by
  rcases v3_cases v u with rfl | ⟨hne, hv⟩
  · have k1 : (v.K == v.K) = true := by simp
    have k2 : (v.N == v.N) = true := by simp
    have k3 : (v.S.toList == v.S.toList) = true := by simp
    rw [decide_eq_true rfl]
    go_enter Tryd.func28, Tryd.ntmps28
    go_wp2
    go_ret
    exact ⟨rfl, by go_grown⟩
  · rw [decide_eq_false hne]
    clear hne
    rcases hv with k1 | ⟨k1, k2⟩ | ⟨k1, k2, k3⟩
    all_goals
      go_enter Tryd.func28, Tryd.ntmps28
      go_wp2
      go_ret
      exact ⟨rfl, by go_grown⟩
set_option maxRecDepth 100000 in
set_option maxHeartbeats 800000 in
theorem otherVal_any (v u : V3) (w : World) :
    Calls Tryd.prog 29 #[.agg #[.int .i64 v.K, .int .i64 v.N, .string v.S], .agg #[.int .i64 u.K, .int .i64 u.N, .string u.S]] w fun e w' => e = .returned (.bool (!decide (v = u))) ∧ Below w.heap.size w w' := by
  rcases v3_cases v u with rfl | ⟨hne, hv⟩
  · have k1 : (v.K == v.K) = true := by simp
    have k2 : (v.N == v.N) = true := by simp
    have k3 : (v.S.toList == v.S.toList) = true := by simp
    rw [decide_eq_true rfl]
    go_enter Tryd.func29, Tryd.ntmps29
    go_wp2
    go_ret
    exact ⟨rfl, by go_grown⟩
  · rw [decide_eq_false hne]
    clear hne
    rcases hv with k1 | ⟨k1, k2⟩ | ⟨k1, k2, k3⟩
    all_goals
      go_enter Tryd.func29, Tryd.ntmps29
      go_wp2
      go_ret
      exact ⟨rfl, by go_grown⟩

set_option maxRecDepth 100000 in
set_option maxHeartbeats 1600000 in
theorem implHolds_any (Op : Int) (L R : A5) (a : Option Addr) (cap : Nat) (M : List B4) (w : World) (hl : L.small) (hr : R.small) (hb : RdBind w a M) (hs : ∀ x ∈ M, x.small) (hm : M.length ≤ 2097152) :
    Calls Tryd.prog 6 #[.agg #[.int .i64 Op, .int .i64 L.K, .string L.S, .int .i64 L.V.K, .int .i64 L.V.N, .string L.V.S, .int .i64 R.K, .string R.S, .int .i64 R.V.K, .int .i64 R.V.N, .string R.V.S], .slice a M.length cap] w fun e w' => e = .returned (.bool (holdsO Op (argV L.K L.S L.V M) (argV R.K R.S R.V M))) ∧ Below w.heap.size w w' := by
  obtain ⟨LK, LS, LVK, LVN, LVS⟩ := L
  obtain ⟨RK, RS, RVK, RVN, RVS⟩ := R
  obtain ⟨l1, l2⟩ := hl
  obtain ⟨r1, r2⟩ := hr
  have hX := boxk_new w #[.int .i64 Op, .int .i64 LK, .string LS, .int .i64 LVK, .int .i64 LVN, .string LVS, .int .i64 RK, .string RS, .int .i64 RVK, .int .i64 RVN, .string RVS] 34
  have b0 := below_al w (.cells #[.int .i64 Op, .int .i64 LK, .string LS, .int .i64 LVK, .int .i64 LVN, .string LVS, .int .i64 RK, .string RS, .int .i64 RVK, .int .i64 RVN, .string RVS] 34)
  have m0 := hb.below b0
  have HS := hide hs
  clear hs hb
  show Calls _ _ _ _ fun e w' => e = .returned (.bool (holdsO Op (argV LK LS ⟨LVK, LVN, LVS⟩ M) (argV RK RS ⟨RVK, RVN, RVS⟩ M))) ∧ Below w.heap.size w w'
  obtain ⟨ov, hov⟩ : ∃ ov, ov = argV LK LS ⟨LVK, LVN, LVS⟩ M := ⟨_, rfl⟩
  obtain ⟨ou, hou⟩ : ∃ ou, ou = argV RK RS ⟨RVK, RVN, RVS⟩ M := ⟨_, rfl⟩
  rw [← hov, ← hou]
  have HOv := hide hov
  have HOu := hide hou
  clear hov hou
  go_enter Tryd.func6, Tryd.ntmps6
  go_wp2_with fail
  refine (implArgVal_any LK LS LVK LVN LVS _ _ M _ l2 m0 HS.out hm).mono ?_
  rintro e w1 ⟨rfl, hb1⟩
  have HX := hide (box_below hX hb1 (by simp))
  have m1 := m0.below hb1
  have hB1 : Below w.heap.size w w1 := b0.trans (hb1.mono b0.size)
  clear hb1 hX b0 m0
  obtain ⟨v, bb, e1, H1⟩ := bindA_two ov
  rw [← HOv.out, e1]
  have HH1 := hide H1
  clear e1 H1
  have HX1 := hide (box_old HX.out (Array.getElem?_eq_some_iff.1 HX.out).1 (.cells #[.int .i64 v.K, .int .i64 v.N, .string v.S] 30))
  have HV1 := hide (boxk_new w1 #[.int .i64 v.K, .int .i64 v.N, .string v.S] 30)
  have m2 := m1.below (below_al w1 (.cells #[.int .i64 v.K, .int .i64 v.N, .string v.S] 30))
  have hB2 := hB1.alloc hB1.size (.cells #[.int .i64 v.K, .int .i64 v.N, .string v.S] 30)
  have hlt := (Array.getElem?_eq_some_iff.1 HX.out).1
  have c6 := boxk_cell HX.out 6 _ rfl
  have c7 := boxk_cell HX.out 7 _ rfl
  have c8 := boxk_cell HX.out 8 _ rfl
  have c9 := boxk_cell HX.out 9 _ rfl
  have c10 := boxk_cell HX.out 10 _ rfl
  clear HX hB1 m1
  go_wp2_with fail
  refine (implArgVal_any RK RS RVK RVN RVS _ _ M _ r2 m2 HS.out hm).mono ?_
  rintro e w2 ⟨rfl, hb2⟩
  have HX2 := hide (box_step HX1.out hb2)
  have HV2 := hide (box_step HV1.out hb2)
  have hB3 : Below w.heap.size w w2 := hB2.trans (hb2.mono hB2.size)
  clear hb2 HX1 HV1 hB2 m2 c6 c7 c8 c9 c10 hlt
  obtain ⟨u, bc, e2, H2⟩ := bindA_two ou
  rw [← HOu.out, e2]
  have HH2 := hide H2
  clear e2 H2
  have l2x := (Array.getElem?_eq_some_iff.1 HX2.out).1
  have l2v := (Array.getElem?_eq_some_iff.1 HV2.out).1
  have HX3 := hide (box_old HX2.out l2x (.cells #[.int .i64 u.K, .int .i64 u.N, .string u.S] 30))
  have HV3 := hide (box_old HV2.out l2v (.cells #[.int .i64 u.K, .int .i64 u.N, .string u.S] 30))
  have HU3 := hide (boxk_new w2 #[.int .i64 u.K, .int .i64 u.N, .string u.S] 30)
  have hB4 := hB3.alloc hB3.size (.cells #[.int .i64 u.K, .int .i64 u.N, .string u.S] 30)
  have c0 := boxk_cell HX2.out 0 _ rfl
  clear HX2 HV2 hB3
  go_wp2_with fail
  refine (signOf_any Op _).mono ?_
  generalize w2.alloc (.cells #[.int .i64 u.K, .int .i64 u.N, .string u.S] 30) = w3 at HX3 HV3 HU3 hB4
  rintro e w4 ⟨rfl, hb4⟩
  have HV4 := hide (box_step HV3.out hb4)
  have HU4 := hide (box_step HU3.out hb4)
  have hB5 : Below w.heap.size w w4 := hB4.trans (hb4.mono hB4.size)
  clear hb4 HX3 HV3 HU3 hB4 c0 l2x l2v
  have l4v := (Array.getElem?_eq_some_iff.1 HV4.out).1
  have l4u := (Array.getElem?_eq_some_iff.1 HU4.out).1
  have p0 := boxk_cell HV4.out 0 _ rfl
  have p1 := boxk_cell HV4.out 1 _ rfl
  have p2 := boxk_cell HV4.out 2 _ rfl
  have q0 := boxk_cell HU4.out 0 _ rfl
  have q1 := boxk_cell HU4.out 1 _ rfl
  have q2 := boxk_cell HU4.out 2 _ rfl
  clear HOv HOu
  by_cases hi : inB Op 1 3 = true
  · obtain ⟨fn, hf⟩ := signF_yes hi
    rcases HH1.out with ⟨rfl, rfl⟩ | ⟨rfl, rfl⟩
    · rcases HH2.out with ⟨rfl, rfl⟩ | ⟨rfl, rfl⟩
      · have HO : Hid (holdsO Op (some v) (some u) = holdB Op v u) := by unfold Hid; rfl
        have hop : Op = 1 ∨ Op = 2 ∨ Op = 3 := by
          simp only [inB, Bool.and_eq_true, decide_eq_true_eq] at hi
          omega
        rcases hop with rfl | rfl | rfl
        · rw [show signF 1 = .func (.func 28) #[] #[] from rfl, show inB 1 1 3 = true from rfl]
          have hB6 := hB5.alloc hB5.size (.cells #[.string (signT 1), .func (.func 28) #[] #[]] 48)
          clear hi hf HV4 HU4 hB5
          go_wp2_with fail
          refine (sameVal_any v u _).mono ?_
          rintro e w5 ⟨rfl, hb5⟩
          have hB7 : Below w.heap.size w w5 := hB6.trans (hb5.mono hB6.size)
          clear hb5 hB6 p0 p1 p2 q0 q1 q2
          go_wp2
          go_ret
          exact ⟨by rw [HO.out, holdB1]; rfl, hB7⟩
        · rw [show signF 2 = .func (.func 29) #[] #[] from rfl, show inB 2 1 3 = true from rfl]
          have hB6 := hB5.alloc hB5.size (.cells #[.string (signT 2), .func (.func 29) #[] #[]] 48)
          clear hi hf HV4 HU4 hB5
          go_wp2_with fail
          refine (otherVal_any v u _).mono ?_
          rintro e w5 ⟨rfl, hb5⟩
          have hB7 : Below w.heap.size w w5 := hB6.trans (hb5.mono hB6.size)
          clear hb5 hB6 p0 p1 p2 q0 q1 q2
          go_wp2
          go_ret
          exact ⟨by rw [HO.out, holdB2]; rfl, hB7⟩
        · rw [show signF 3 = .func (.func 30) #[] #[] from rfl, show inB 3 1 3 = true from rfl]
          have hB6 := hB5.alloc hB5.size (.cells #[.string (signT 3), .func (.func 30) #[] #[]] 48)
          clear hi hf HV4 HU4 hB5
          go_wp2_with fail
          refine (implLessVal_any v.K v.N v.S u.K u.N u.S _).mono ?_
          rintro e w5 ⟨rfl, hb5⟩
          have hB7 : Below w.heap.size w w5 := hB6.trans (hb5.mono hB6.size)
          clear hb5 hB6 p0 p1 p2 q0 q1 q2
          go_wp2
          go_ret
          exact ⟨by rw [HO.out, holdB3]; rfl, hB7⟩
      · have HO : Hid (holdsO Op (some v) none = false) := by unfold Hid; rfl
        rw [hf, hi]
        have hB6 := hB5.alloc hB5.size (.cells #[.string (signT Op), .func (.func fn) #[] #[]] 48)
        clear hi hf HV4 HU4 hB5
        go_wp2
        go_ret
        exact ⟨by rw [HO.out]; rfl, hB6⟩
    · have HO : Hid (holdsO Op none ou = false) := by unfold Hid; exact holdsO_none _ _
      rw [hf, hi]
      have hB6 := hB5.alloc hB5.size (.cells #[.string (signT Op), .func (.func fn) #[] #[]] 48)
      clear hi hf HV4 HU4 hB5
      go_wp2
      go_ret
      exact ⟨by rw [HO.out]; rfl, hB6⟩
  · simp only [Bool.not_eq_true] at hi
    have HO : Hid (holdsO Op ov ou = false) := by
      unfold Hid
      simp only [inB, Bool.and_eq_false_iff, decide_eq_false_iff_not] at hi
      rcases ov with _ | v'
      · exact holdsO_none _ _
      · rcases ou with _ | u'
        · rfl
        · exact holdB_no _ _ (by omega) (by omega) (by omega)
    rw [signF_no hi, hi]
    have hB6 := hB5.alloc hB5.size (.cells #[.string (signT Op), .nilFunc] 48)
    clear hi HV4 HU4 hB5 HH1 HH2
    cases bb
    · go_wp2
      go_ret
      exact ⟨by rw [HO.out]; rfl, hB6⟩
    · cases bc
      · go_wp2
        go_ret
        exact ⟨by rw [HO.out]; rfl, hB6⟩
      · go_wp2
        go_ret
        exact ⟨by rw [HO.out]; rfl, hB6⟩
end Go.Proofs.YtlaoiagpoomldaaDoor
/-
  What the model's Holds answers: holdsO.
-/
namespace Go.Proofs.YtlaoiagpoomldaaDoor
open Go.RowKit
set_option linter.unusedVariables false

end Go.Proofs.YtlaoiagpoomldaaDoor
/-
  What both HoldAlls answer: whether each holds.
-/
namespace Go.Proofs.YtlaoiagpoomldaaDoor
open Go.RowKit
set_option linter.unusedVariables false

/-- whether a condition holds of what is bound -/
def C11.holds (M : List B4) (x : C11) : Bool := holdsO x.Op (argV x.L.K x.L.S x.L.V M) (argV x.R.K x.R.S x.R.V M)
theorem allC_yes {M : List B4} {L : List C11} (h : ∀ j, j < L.length → (eAt L j).holds M = true) : L.all (C11.holds M) = true := by
  rw [List.all_eq_true]
  intro x hx
  obtain ⟨j, hj, rfl⟩ := List.getElem_of_mem hx
  rw [← eAt_in hj]
  exact h j hj
theorem allC_no {M : List B4} {L : List C11} {j : Nat} (hj : j < L.length) (h : (eAt L j).holds M = false) : L.all (C11.holds M) = false := by
  rw [List.all_eq_false]
  exact ⟨L[j], List.getElem_mem _, by rw [← eAt_in hj, h]; simp⟩

set_option maxRecDepth 100000 in
set_option maxHeartbeats 1600000 in
theorem implHoldAll_any (a : Option Addr) (cap : Nat) (L : List C11) (a2 : Option Addr) (cap2 : Nat) (M : List B4) (w : World) (hr : RdCond w a L) (hs : ∀ x ∈ L, x.small) (hb : RdBind w a2 M) (hs2 : ∀ x ∈ M, x.small) (hn : L.length ≤ 2097152) (hm : M.length ≤ 2097152) :
    Calls Tryd.prog 8 #[.slice a L.length cap, .slice a2 M.length cap2] w fun e w' => e = .returned (.bool (L.all (C11.holds M))) ∧ Below w.heap.size w w' := by
  obtain ⟨n, hN⟩ : ∃ n, n = L.length := ⟨_, rfl⟩
  obtain ⟨r, hR⟩ : ∃ r, r = L.all (C11.holds M) := ⟨_, rfl⟩
  rw [← hN] at hn
  rw [← hN, ← hR]
  have HN := hide hN
  have HR := hide hR
  have HS := hide hs
  have HS2 := hide hs2
  clear hN hR hs hs2
  go_enter Tryd.func8, Tryd.ntmps8
  go_wp2
  go_loopw [9] (fun i wr => ∃ (k : Nat), k ≤ n ∧ i = .int .i64 k ∧ (∀ j, j < k → (eAt L j).holds M = true) ∧ Below w.heap.size w wr) (fun i _ => n - (intOf i).toNat)
  case atStart => exact ⟨0, Nat.zero_le _, rfl, fun j hj => absurd hj (Nat.not_lt_zero _), Below.refl _ _⟩
  case round =>
    obtain ⟨k, hk, rfl, hall, hbel⟩ := hrel
    have HA := hide hall
    clear hall
    by_cases hlt : k < n
    · obtain ⟨b, off, hab, hbw, hc⟩ := RdCond.cells hr (by rw [← HN.out]; omega)
      obtain ⟨c0, c1, c2, c3, c4, c5, c6, c7, c8, c9, c10⟩ := hc k (by rw [← HN.out]; exact hlt)
      clear hc
      subst hab
      rw [← hbel.cell (p := ⟨b, off + k * 11, none⟩) hbw] at c0
      rw [← hbel.cell (p := ⟨b, off + k * 11 + 1, none⟩) hbw] at c1
      rw [← hbel.cell (p := ⟨b, off + k * 11 + 2, none⟩) hbw] at c2
      rw [← hbel.cell (p := ⟨b, off + k * 11 + 3, none⟩) hbw] at c3
      rw [← hbel.cell (p := ⟨b, off + k * 11 + 4, none⟩) hbw] at c4
      rw [← hbel.cell (p := ⟨b, off + k * 11 + 5, none⟩) hbw] at c5
      rw [← hbel.cell (p := ⟨b, off + k * 11 + 6, none⟩) hbw] at c6
      rw [← hbel.cell (p := ⟨b, off + k * 11 + 7, none⟩) hbw] at c7
      rw [← hbel.cell (p := ⟨b, off + k * 11 + 8, none⟩) hbw] at c8
      rw [← hbel.cell (p := ⟨b, off + k * 11 + 9, none⟩) hbw] at c9
      rw [← hbel.cell (p := ⟨b, off + k * 11 + 10, none⟩) hbw] at c10
      have hS : (eAt L k).small := by rw [eAt_in (by rw [← HN.out]; exact hlt)]; exact HS.out _ (List.getElem_mem _)
      have hbA := hbel.alloc hbel.size (.cells #[.int .i64 (eAt L k).Op, .int .i64 (eAt L k).L.K, .string (eAt L k).L.S, .int .i64 (eAt L k).L.V.K, .int .i64 (eAt L k).L.V.N, .string (eAt L k).L.V.S, .int .i64 (eAt L k).R.K, .string (eAt L k).R.S, .int .i64 (eAt L k).R.V.K, .int .i64 (eAt L k).R.V.N, .string (eAt L k).R.V.S] 34)
      go_wp2_with fail
      refine (implHolds_any (eAt L k).Op (eAt L k).L (eAt L k).R _ _ M _ hS.1 hS.2 (hb.below hbA) HS2.out hm).mono ?_
      rintro e w2 ⟨rfl, hb2⟩
      have hB2 : Below w.heap.size w w2 := hbA.trans (hb2.mono hbA.size)
      clear hb2 hbel hbA c0 c1 c2 c3 c4 c5 c6 c7 c8 c9 c10
      obtain ⟨x, hx⟩ : ∃ x, x = holdsO (eAt L k).Op (argV (eAt L k).L.K (eAt L k).L.S (eAt L k).L.V M) (argV (eAt L k).R.K (eAt L k).R.S (eAt L k).R.V M) := ⟨_, rfl⟩
      rw [← hx]
      have HXk : Hid ((eAt L k).holds M = x) := hx.symm
      clear hx
      cases x
      · have HF : Hid (r = false) := by unfold Hid; rw [HR.out]; exact allC_no (by rw [← HN.out]; exact hlt) HXk.out
        go_wp2
        go_ret
        exact ⟨by rw [HF.out]; rfl, hB2⟩
      · go_wp2
        go_roundw
        case rel => exact ⟨k + 1, by omega, by go_num, fun j hj => by
            by_cases hjk : j = k
            · rw [hjk]; exact HXk.out
            · exact HA.out j (by omega), hB2⟩
        case measure => simp [intOf]; omega
    · have HF : Hid (r = true) := by unfold Hid; rw [HR.out]; exact allC_yes (fun j hj => HA.out j (by rw [← HN.out] at hj; omega))
      go_wp2
      go_ret
      exact ⟨by rw [HF.out]; rfl, hbel⟩
end Go.Proofs.YtlaoiagpoomldaaDoor
/-
  Rows of bytes: what a slice of bytes reads as (Rd), what a call's own row holds (vals), and the contracts of the laws' own helpers on them: toByteS copies, eqByteS tells whether two are the same.
-/
namespace Go.Proofs.YtlaoiagpoomldaaDoor
open Go.RowKit
set_option linter.unusedVariables false

theorem Tryd.info5 : (Tryd.prog.info? 5).map (fun i => (i.zero, i.size, i.bytes)) = some (some (.int .u8 0), 1, 1) := by kernel_rfl

/-- the i-th byte as a number -/
def byteAt (bs : List UInt8) (i : Nat) : Int := ((bs.getD i 0).toNat : Int)
theorem byteAt_lo (bs : List UInt8) (i : Nat) : 0 ≤ byteAt bs i := by unfold byteAt; omega
theorem byteAt_hi (bs : List UInt8) (i : Nat) : byteAt bs i ≤ 255 := by
  unfold byteAt; have := (bs.getD i 0).toNat_lt; omega

def vals (bs : List UInt8) : List Value := bs.map (fun b => Value.int .u8 (b.toNat : Int))
theorem vals_length (bs : List UInt8) : (vals bs).length = bs.length := by simp [vals]
theorem vals_get {bs : List UInt8} {i : Nat} (h : i < bs.length) : (vals bs)[i]? = some (.int .u8 (byteAt bs i)) := by
  unfold vals byteAt
  rw [List.getElem?_map, List.getElem?_eq_getElem h]
  simp [List.getD, h]
theorem vals_append (a b : List UInt8) : vals (a ++ b) = vals a ++ vals b := by simp [vals]

/-- what the slice at 'a' reads as -/
def Rd (w : World) (a : Option Addr) (bs : List UInt8) : Prop :=
  ∀ i, i < bs.length → ∃ b off, a = some ⟨b, off, none⟩ ∧ w.cell? ⟨b, off + i, none⟩ = some (.int .u8 (byteAt bs i))

theorem Rd.open {w : World} {a : Option Addr} {bs : List UInt8} (h : Rd w a bs) (hp : 0 < bs.length) :
    ∃ b off, a = some ⟨b, off, none⟩ ∧ b < w.heap.size ∧ ∀ i, i < bs.length → w.cell? ⟨b, off + i, none⟩ = some (.int .u8 (byteAt bs i)) := by
  obtain ⟨b, off, rfl, h0⟩ := h 0 hp
  refine ⟨b, off, rfl, World.block_lt_of_cell? w _ h0, fun i hi => ?_⟩
  obtain ⟨b2, off2, e, h1⟩ := h i hi
  simp only [Option.some.injEq, Addr.mk.injEq] at e
  rw [e.1, e.2.1]; exact h1

theorem Rd.below {w w' : World} {a : Option Addr} {bs : List UInt8} (h : Rd w a bs) (hb : Below w.heap.size w w') : Rd w' a bs := by
  intro i hi
  obtain ⟨b, off, e, hc⟩ := h i hi
  exact ⟨b, off, e, by rw [hb.cell (p := ⟨b, off + i, none⟩) (World.block_lt_of_cell? w _ hc)]; exact hc⟩

theorem Rd.heap {w w' : World} {a : Option Addr} {bs : List UInt8} (h : Rd w a bs) (hb : w'.heap = w.heap) : Rd w' a bs := by
  intro i hi
  obtain ⟨b, off, e, hc⟩ := h i hi
  exact ⟨b, off, e, by rw [← hc]; simp [World.cell?, hb]⟩

/-- what a call's own row of bytes reads as -/
theorem rd_owns {w : World} {base n : Nat} {v : Value} {bs : List UInt8} (h : w.ownsRow base 5 1 v n (vals bs)) :
    ∃ a cap, v = .slice a bs.length cap ∧ Rd w a bs ∧ n = bs.length := by
  have hn : n = bs.length := by have := h.1; rw [vals_length] at this; omega
  subst hn
  rcases h.2 with ⟨rfl, h0⟩ | ⟨g, cap, cur, rfl, hb, hg, hnc, hcm, hsz, htake⟩
  · exact ⟨none, 0, by rw [h0], fun i hi => by omega, rfl⟩
  · refine ⟨_, cap, rfl, fun i hi => ⟨g, 0, rfl, ?_⟩, rfl⟩
    have := h.cellAt i (by omega)
    rw [vals_get hi] at this
    rw [← this]; simp

/-- the row of bytes that came in -/
def IsRow (k : IntKind) (w : World) (a : Option Addr) (len cap : Nat) (zs : List Int) : Prop :=
  (a = none ∧ len = 0 ∧ cap = 0 ∧ zs = []) ∨
  ∃ x, a = some x ∧ len ≤ cap ∧ cap ≤ maxLen ∧ zs.length = cap ∧ (∀ i, i < zs.length → w.cell? (x.add i) = some (.int k (zs.getD i 0))) ∧ ∀ n ∈ zs, (Lit.int k n).wf = true

theorem isRow_len {k : IntKind} {w : World} {a : Option Addr} {len cap : Nat} {zs : List Int} (h : IsRow k w a len cap zs) : len ≤ maxLen := by
  rcases h with ⟨rfl, rfl, rfl, rfl⟩ | ⟨x, rfl, hl, hm, hz, hcell, hwz⟩
  · exact Nat.zero_le _
  · exact Nat.le_trans hl hm
theorem below_drewN (B : Nat) (w : World) (n : Nat) : Below B w (w.drewN n) := ⟨rfl, rfl, rfl, Nat.le_refl _, fun _ _ => rfl⟩

theorem rd_row {w : World} {a : Option Addr} {len cap : Nat} {zs : List Int} (h : IsRow .u8 w a len cap zs) :
    ∃ bs : List UInt8, bs.length = len ∧ Rd w a bs := by
  rcases h with ⟨rfl, rfl, rfl, rfl⟩ | ⟨x, rfl, hl, hm, hz, hcell, hwz⟩
  · exact ⟨[], rfl, fun i hi => by simp at hi⟩
  · refine ⟨(zs.take len).map (fun n => UInt8.ofNat n.toNat), by simp; omega, fun i hi => ?_⟩
    have hi2 : i < len := by simp at hi; omega
    obtain ⟨b, off, spot⟩ := x
    have hc := hcell i (by omega)
    have hs : spot = none := by
      have h0 := hcell 0 (by omega)
      simpa [Addr.add] using World.cell?_spot h0
    subst hs
    refine ⟨b, off, rfl, ?_⟩
    have e : (⟨b, off, none⟩ : Addr).add i = ⟨b, off + i, none⟩ := Addr.add_lit _ _ _
    rw [e] at hc
    rw [hc]
    have hiz : i < zs.length := by omega
    have hw := hwz zs[i] (List.getElem_mem hiz)
    have hb := bounds_u8 hw
    unfold byteAt
    simp [List.getD, hiz, hi2]
    omega

theorem rd_cells {w : World} {p : Addr} {bs : List UInt8} (hr : Rd w (some p) bs) : ∀ j u, (vals bs)[j]? = some u → w.cell? (p.add j) = some u := by
  intro j u hj
  have hl : j < bs.length := by have := (List.getElem?_eq_some_iff.1 hj).1; rw [vals_length] at this; exact this
  rw [vals_get hl] at hj
  obtain ⟨b, off, e, hc⟩ := hr j hl
  simp only [Option.some.injEq] at e
  subst e
  rw [Addr.add_lit, hc]; exact hj

/-- a row of the call's own, at hand for the readers -/
theorem rd_owns_cap {w : World} {base n : Nat} {v : Value} {bs : List UInt8} (h : w.ownsRow base 5 1 v n (vals bs)) :
    ∃ a cap, v = .slice a bs.length cap ∧ Rd w a bs ∧ bs.length ≤ cap ∧ (a = none → bs.length = 0 ∧ cap = 0) := by
  have hn : n = bs.length := by have := h.1; rw [vals_length] at this; omega
  subst hn
  obtain ⟨a, cap, e, hr, -⟩ := rd_owns h
  rcases h.2 with ⟨h1, h0⟩ | ⟨g, cap', cur, h1, hb, hg, hnc, hcm, hsz, htake⟩
  · rw [e] at h1
    simp only [Value.slice.injEq] at h1
    exact ⟨a, cap, e, hr, by omega, fun _ => ⟨h0, h1.2.2⟩⟩
  · rw [e] at h1
    simp only [Value.slice.injEq] at h1
    exact ⟨a, cap, e, hr, by omega, fun hh => by rw [h1.1] at hh; cases hh⟩

end Go.Proofs.YtlaoiagpoomldaaDoor
/-
  Plain facts on bits of an int that is not below 0.
-/
namespace Go.Proofs.YtlaoiagpoomldaaDoor
open Go.RowKit
set_option linter.unusedVariables false

theorem i64_xor_nat (a b : Nat) (ha : a < 9223372036854775808) (hb : b < 9223372036854775808) : bits .xor .i64 (a : Int) (b : Int) = ((a ^^^ b : Nat) : Int) := by
  have hx : a ^^^ b < 2 ^ 63 := Nat.xor_lt_two_pow (by omega) (by omega)
  show IntKind.i64.wrap ((BitVec.ofInt 64 (a : Int) ^^^ BitVec.ofInt 64 (b : Int)).toNat : Int) = _
  rw [BitVec.toNat_xor, ofInt_u64 a (by omega), ofInt_u64 b (by omega)]
  exact IntWalk.i64_in _ (by omega)
theorem i64_and_nat (a b : Nat) (ha : a < 9223372036854775808) (hb : b < 9223372036854775808) : bits .and .i64 (a : Int) (b : Int) = ((a &&& b : Nat) : Int) := by
  have hx : a &&& b < 2 ^ 63 := Nat.and_lt_two_pow _ (by omega)
  show IntKind.i64.wrap ((BitVec.ofInt 64 (a : Int) &&& BitVec.ofInt 64 (b : Int)).toNat : Int) = _
  rw [BitVec.toNat_and, ofInt_u64 a (by omega), ofInt_u64 b (by omega)]
  exact IntWalk.i64_in _ (by omega)
theorem i64_or_nat (a b : Nat) (ha : a < 9223372036854775808) (hb : b < 9223372036854775808) : bits .or .i64 (a : Int) (b : Int) = ((a ||| b : Nat) : Int) := by
  have hx : a ||| b < 2 ^ 63 := Nat.or_lt_two_pow (by omega) (by omega)
  show IntKind.i64.wrap ((BitVec.ofInt 64 (a : Int) ||| BitVec.ofInt 64 (b : Int)).toNat : Int) = _
  rw [BitVec.toNat_or, ofInt_u64 a (by omega), ofInt_u64 b (by omega)]
  exact IntWalk.i64_in _ (by omega)

theorem u8_and127 (c : Int) (h0 : 0 ≤ c) (h1 : c ≤ 255) : bits .and .u8 c 127 = c % 128 := by
  have := u8_and c 127 h0 (by omega) (by omega) (by omega)
  rw [this, show (127 : Int).toNat = 127 from rfl, nat_mask7]
  omega

/-- the sum's step on one bit -/
def cstep (x : Nat) : Nat := if x % 2 = 1 then (x / 2) ^^^ 2197175160 else x / 2
def cstepN : Nat → Nat → Nat
  | 0, x => x
  | k + 1, x => cstep (cstepN k x)
def cbyte (x c : Nat) : Nat := cstepN 8 (x ^^^ c)
theorem cstep_lt {x : Nat} (h : x < 4294967296) : cstep x < 4294967296 := by
  unfold cstep
  split
  · exact Nat.xor_lt_two_pow (n := 32) (by omega) (by omega)
  · omega
theorem cstepN_lt {x : Nat} (h : x < 4294967296) : ∀ k, cstepN k x < 4294967296
  | 0 => h
  | k + 1 => cstep_lt (cstepN_lt h k)
theorem cxor_lt {x c : Nat} (h : x < 4294967296) (hc : c < 4294967296) : x ^^^ c < 4294967296 := Nat.xor_lt_two_pow (n := 32) (by omega) (by omega)
theorem cbyte_lt {x c : Nat} (h : x < 4294967296) (hc : c < 256) : cbyte x c < 4294967296 := cstepN_lt (cxor_lt h (by omega)) 8
end Go.Proofs.YtlaoiagpoomldaaDoor
/-
  The contracts of the draws' cursor: what stands in its block, and what each step answers (a number within its bounds); no step touches another block that was there.
-/
namespace Go.Proofs.YtlaoiagpoomldaaDoor
open Go.RowKit
set_option linter.unusedVariables false

theorem i64_and255 (n : Int) : bits .and .i64 n 255 = n % 256 := by
  have h255 : (BitVec.ofInt 64 255).toNat = 2 ^ 8 - 1 := by decide
  have key : (BitVec.ofInt 64 n &&& BitVec.ofInt 64 255).toNat = (n % ((2 ^ 64 : Nat) : Int)).toNat % 2 ^ 8 := by
    rw [BitVec.toNat_and, BitVec.toNat_ofInt, h255, Nat.and_two_pow_sub_one_eq_mod]
  show IntKind.i64.wrap ((BitVec.ofInt 64 n &&& BitVec.ofInt 64 255).toNat : Nat) = n % 256
  rw [key, IntKind.wrap_i64]
  omega

/-- the slice at 'a' reads as bs, below block B -/
def RdB (B : Nat) (w : World) (a : Option Addr) (bs : List UInt8) : Prop :=
  ∀ i, i < bs.length → ∃ b off, a = some ⟨b, off, none⟩ ∧ b < B ∧ w.cell? ⟨b, off + i, none⟩ = some (.int .u8 (byteAt bs i))
theorem RdB.below {B : Nat} {w w' : World} {a : Option Addr} {bs : List UInt8} (h : RdB B w a bs) (hb : Below B w w') : RdB B w' a bs := by
  intro i hi
  obtain ⟨b, off, e, hl, hc⟩ := h i hi
  exact ⟨b, off, e, hl, by rw [hb.cell (p := ⟨b, off + i, none⟩) hl]; exact hc⟩
theorem Rd.toB {w : World} {a : Option Addr} {bs : List UInt8} (h : Rd w a bs) : RdB w.heap.size w a bs := by
  intro i hi
  obtain ⟨b, off, e, hc⟩ := h i hi
  exact ⟨b, off, e, World.block_lt_of_cell? w _ hc, hc⟩
theorem RdB.toRd {B : Nat} {w : World} {a : Option Addr} {bs : List UInt8} (h : RdB B w a bs) : Rd w a bs := by
  intro i hi
  obtain ⟨b, off, e, hl, hc⟩ := h i hi
  exact ⟨b, off, e, hc⟩

/-- block q holds a cursor over bytes below B -/
def Cur (B : Nat) (w : World) (q : Nat) : Prop := B ≤ q ∧ ∃ (a : Option Addr) (cap : Nat) (code : List UInt8) (i : Nat) (h : Int),
  code.length ≤ 1048576 ∧ i ≤ code.length ∧ RdB B w a code ∧ w.heap[q]? = some (.cells #[.slice a code.length cap, .int .i64 (i : Int), .int .i64 h] 55 (0, 0))

theorem Cur.lt {B q : Nat} {w : World} (h : Cur B w q) : q < w.heap.size := by
  obtain ⟨_, a, cap, code, i, hh, _, _, _, hg⟩ := h
  exact (Array.getElem?_eq_some_iff.1 hg).1
theorem Cur.keep {B q : Nat} {w w' : World} {row : Option Nat} (h : Cur B w q) (hg : w.grownBy w' row) (hr : row ≠ some q) (hB : ∀ k, row = some k → B ≤ k) : Cur B w' q := by
  have hlt := h.lt
  obtain ⟨hb, a, cap, code, i, hh, h1, h2, h3, h4⟩ := h
  refine ⟨hb, a, cap, code, i, hh, h1, h2, h3.below ((Below.refl _ _).grown hg (by omega) hB), ?_⟩
  rw [hg.block q hlt (fun e => hr e.symm)]; exact h4

theorem struct_cell {w : World} {q : Nat} {c0 c1 c2 : Value} {T : TypeId} (h : w.heap[q]? = some (.cells #[c0, c1, c2] T (0, 0))) :
    w.cell? ⟨q, 0, none⟩ = some c0 ∧ w.cell? ⟨q, 1, none⟩ = some c1 ∧ w.cell? ⟨q, 2, none⟩ = some c2 ∧ (∀ j, w.frozen? ⟨q, j, none⟩ = false) := by
  refine ⟨?_, ?_, ?_, ?_⟩
  · rw [cell_of_row w q 0 _ T (0, 0) h]; rfl
  · rw [cell_of_row w q 1 _ T (0, 0) h]; rfl
  · rw [cell_of_row w q 2 _ T (0, 0) h]; rfl
  · intro j; exact frozen_of_row w q j _ T h

theorem struct_set2 {w : World} {q : Nat} {c0 c1 c2 : Value} {T : TypeId} (h : w.heap[q]? = some (.cells #[c0, c1, c2] T (0, 0))) (u : Value) :
    (w.setCell ⟨q, 2, none⟩ u).heap[q]? = some (.cells #[c0, c1, u] T (0, 0)) ∧ w.grownBy (w.setCell ⟨q, 2, none⟩ u) (some q) := by
  refine ⟨?_, ⟨rfl, rfl, rfl, by simp [World.setCell], fun k _ hk => heap_setCell_other w ⟨q, 2, none⟩ k u (fun e => hk (by simp [e]))⟩⟩
  rw [heap_setCell_same w q 2 _ T u h]; rfl
theorem struct_set1 {w : World} {q : Nat} {c0 c1 c2 : Value} {T : TypeId} (h : w.heap[q]? = some (.cells #[c0, c1, c2] T (0, 0))) (u : Value) :
    (w.setCell ⟨q, 1, none⟩ u).heap[q]? = some (.cells #[c0, u, c2] T (0, 0)) ∧ w.grownBy (w.setCell ⟨q, 1, none⟩ u) (some q) := by
  refine ⟨?_, ⟨rfl, rfl, rfl, by simp [World.setCell], fun k _ hk => heap_setCell_other w ⟨q, 1, none⟩ k u (fun e => hk (by simp [e]))⟩⟩
  rw [heap_setCell_same w q 1 _ T u h]; rfl
theorem grown_trans {a b c : World} {row : Option Nat} (h : a.grownBy b row) (k : b.grownBy c row) : a.grownBy c row :=
  ⟨k.os.trans h.os, k.tape.trans h.tape, k.output.trans h.output, Nat.le_trans h.size k.size, fun i hi hne => (k.block i (Nat.lt_of_lt_of_le hi h.size) hne).trans (h.block i hi hne)⟩
theorem grown_drewN {w w' : World} {row : Option Nat} (h : w.grownBy w' row) (n : Nat) : w.grownBy (w'.drewN n) row := ⟨h.os, h.tape, h.output, h.size, h.block⟩

theorem cur_step {B q cap i : Nat} {w1 : World} {a : Option Addr} {code : List UInt8} {H : Int} (hb : B ≤ q) (hl : code.length ≤ 1048576) (hi : i < code.length) (hr : RdB B w1 a code)
    (hg : w1.heap[q]? = some (.cells #[.slice a code.length cap, .int .i64 (i : Int), .int .i64 H] 55 (0, 0))) (n : Nat) :
    Cur B ((w1.drewN n).setCell ⟨q, 1, none⟩ (.int .i64 ((i : Int) + 1))) q ∧ w1.grownBy ((w1.drewN n).setCell ⟨q, 1, none⟩ (.int .i64 ((i : Int) + 1))) (some q) := by
  obtain ⟨hg2, gr2⟩ := struct_set1 (w := w1.drewN n) hg (.int .i64 ((i : Int) + 1))
  have gr3 : w1.grownBy ((w1.drewN n).setCell ⟨q, 1, none⟩ (.int .i64 ((i : Int) + 1))) (some q) := ⟨gr2.os, gr2.tape, gr2.output, gr2.size, gr2.block⟩
  have hq := (Array.getElem?_eq_some_iff.1 hg).1
  refine ⟨⟨hb, a, cap, code, i + 1, H, hl, hi, hr.below ((Below.refl B w1).grown gr3 (by omega) (fun k hk => by cases hk; exact hb)), ?_⟩, gr3⟩
  rw [hg2]; rfl
theorem cur_stay {B q cap i : Nat} {w1 : World} {a : Option Addr} {code : List UInt8} {H : Int} (hb : B ≤ q) (hl : code.length ≤ 1048576) (hi : i ≤ code.length) (hr : RdB B w1 a code)
    (hg : w1.heap[q]? = some (.cells #[.slice a code.length cap, .int .i64 (i : Int), .int .i64 H] 55 (0, 0))) (n m : Nat) :
    Cur B ((w1.drewN n).drewN m) q ∧ w1.grownBy ((w1.drewN n).drewN m) (some q) :=
  ⟨⟨hb, a, cap, code, i, H, hl, hi, hr.below ⟨rfl, rfl, rfl, Nat.le_refl _, fun _ _ => rfl⟩, hg⟩, ⟨rfl, rfl, rfl, Nat.le_refl _, fun _ _ _ => rfl⟩⟩

set_option maxHeartbeats 1600000 in
theorem l1Byte_any (B q : Nat) (w : World) (hc : Cur B w q) :
    Calls Tryd.prog 21 #[.pointer (some ⟨q, 0, none⟩)] w fun e w' => ∃ x : Int, e = .returned (.int .i64 x) ∧ 0 ≤ x ∧ x ≤ 255 ∧ Cur B w' q ∧ w.grownBy w' (some q) := by
  obtain ⟨hb, a, cap, code, i, h, hl, hi, hr, hg⟩ := hc
  have HG := hide hg
  obtain ⟨c0, c1, c2, cf⟩ := struct_cell hg
  have f2 := cf 2
  clear cf hg
  have h255 := i64_and255
  go_enter Tryd.func21, Tryd.ntmps21
  go_wp2
  generalize wrap64 (h * 6364136223846793005) = H1
  generalize wrap64 (H1 + 1442695040888963407) = H
  obtain ⟨hg1, gr1⟩ := struct_set2 HG.out (.int .i64 H)
  have HR := hide (hr.below ((Below.refl B w).grown gr1 (by have := (Array.getElem?_eq_some_iff.1 HG.out).1; omega) (fun k hk => by cases hk; exact hb)))
  have HG1 := hide hg1
  have HR1 := hide gr1
  clear c0 c1 c2 f2 hr gr1 HG
  generalize w.setCell ⟨q, 2, none⟩ (.int .i64 H) = w1 at hg1 HR HG1 HR1 ⊢
  obtain ⟨c0, c1, c2, cf⟩ := struct_cell hg1
  have f1 := cf 1
  clear cf hg1
  go_quiet (fail)
  go_wp2
  have hx0 := Int.emod_nonneg (bits BinOp.xor IntKind.i64 (H / 8589934592) (H / 140737488355328)) (show (256 : Int) ≠ 0 by omega)
  have hx1 := Int.emod_lt_of_pos (bits BinOp.xor IntKind.i64 (H / 8589934592) (H / 140737488355328)) (show (0 : Int) < 256 by omega)
  generalize bits BinOp.xor IntKind.i64 (H / 8589934592) (H / 140737488355328) % 256 = x at hx0 hx1 ⊢
  by_cases hlt : i < code.length
  · obtain ⟨b, off, hab, hbB, hcell⟩ := HR.out i hlt
    have hi2 : (i : Int) < (code.length : Int) := by omega
    have y1 := byteAt_lo code i
    have y2 := byteAt_hi code i
    generalize byteAt code i = y at hcell y1 y2
    subst hab
    go_quiet (fail)
    go_wp2
    go_quiet (fail)
    go_wp2
    go_ret
    have CS := cur_step hb hl hlt HR.out HG1.out
    exact ⟨_, rfl, by omega, by omega, (CS _).1, grown_trans HR1.out (CS _).2⟩
  · go_quiet (fail)
    go_wp2
    go_ret
    have CS := cur_stay hb hl hi HR.out HG1.out
    exact ⟨_, rfl, by omega, by omega, (CS _ _).1, grown_trans HR1.out (CS _ _).2⟩

set_option maxHeartbeats 1600000 in
theorem l1Below_any (B q : Nat) (n : Int) (w : World) (hc : Cur B w q) (hn : 0 < n) (hn2 : n ≤ 1000000) :
    Calls Tryd.prog 12 #[.pointer (some ⟨q, 0, none⟩), .int .i64 n] w fun e w' => ∃ x : Int, e = .returned (.int .i64 x) ∧ 0 ≤ x ∧ x < n ∧ Cur B w' q ∧ w.grownBy w' (some q) := by
  by_cases hs : n ≤ 256
  · go_enter Tryd.func12, Tryd.ntmps12
    go_wp2_with fail
    refine (l1Byte_any B q w hc).mono ?_
    rintro e w1 ⟨x, rfl, x0, x1, c1, g1⟩
    go_wp2
    go_ret
    exact ⟨_, rfl, Int.emod_nonneg _ (by omega), Int.emod_lt_of_pos _ hn, c1, g1⟩
  · go_enter Tryd.func12, Tryd.ntmps12
    go_wp2_with fail
    refine (l1Byte_any B q w hc).mono ?_
    rintro e w1 ⟨x, rfl, x0, x1, c1, g1⟩
    go_wp2_with fail
    refine (l1Byte_any B q w1 c1).mono ?_
    rintro e w2 ⟨y, rfl, y0, y1, c2, g2⟩
    go_wp2_with fail
    refine (l1Byte_any B q w2 c2).mono ?_
    rintro e w3 ⟨z, rfl, z0, z1, c3, g3⟩
    go_wp2
    go_ret
    exact ⟨_, rfl, Int.emod_nonneg _ (by omega), Int.emod_lt_of_pos _ hn, c3, grown_trans (grown_trans g1 g2) g3⟩

end Go.Proofs.YtlaoiagpoomldaaDoor
/-
  Numbers in bytes, plainly: what GetNum reads (numR) and what PutNum writes (encN), and that they are inverse. No program is spoken of here.
-/
namespace Go.Proofs.YtlaoiagpoomldaaDoor
open Go.RowKit
set_option linter.unusedVariables false

def accN (bs : List UInt8) (A : Nat) : Nat → Nat
  | 0 => 0
  | k + 1 => accN bs A k + (byteAt bs (A + k)).toNat % 128 * 128 ^ k
theorem accN_lt (bs : List UInt8) (A : Nat) : ∀ k, accN bs A k < 128 ^ k
  | 0 => by show 0 < 1; omega
  | k + 1 => by
    have h := accN_lt bs A k
    show accN bs A k + (byteAt bs (A + k)).toNat % 128 * 128 ^ k < 128 ^ (k + 1)
    have h2 : (byteAt bs (A + k)).toNat % 128 ≤ 127 := by omega
    have h3 := Nat.mul_le_mul_right (128 ^ k) h2
    rw [Nat.pow_succ]
    omega
/-- where the last group of a number stands: the first byte below 128, at most five bytes on -/
def scanN (bs : List UInt8) (A : Nat) : Nat → Nat → Option Nat
  | 0, _ => none
  | f + 1, k => if A + k < bs.length then (if byteAt bs (A + k) < 128 then some k else scanN bs A f (k + 1)) else none
def unfN (m : Nat) : Int := if m % 2 = 1 then -((m / 2 : Nat) : Int) - 1 else ((m / 2 : Nat) : Int)
/-- what GetNum answers -/
def numR (bs : List UInt8) (at' : Int) : Int × Int × Bool :=
  if at' < 0 then (0, 0, false)
  else match scanN bs at'.toNat 5 0 with
    | none => (0, 0, false)
    | some k => if (k ≠ 0 ∧ byteAt bs (at'.toNat + k) = 0) ∨ 2000000000 < accN bs at'.toNat (k + 1) then (0, 0, false)
      else (unfN (accN bs at'.toNat (k + 1)), at' + k + 1, true)

theorem scanN_out {bs : List UInt8} {A : Nat} (h : bs.length ≤ A) (f k : Nat) : scanN bs A f k = none := by
  cases f with
  | zero => rfl
  | succ f => unfold scanN; rw [if_neg (by omega)]
theorem or_acc {a x k : Nat} (ha : a < 128 ^ k) : a ||| (x * 128 ^ k) = a + x * 128 ^ k := by
  have e : (128 : Nat) ^ k = 2 ^ (7 * k) := by rw [Nat.pow_mul]
  rw [e] at ha ⊢
  rw [Nat.or_comm, Nat.add_comm]
  exact nat_join (7 * k) (x * 2 ^ (7 * k)) a (Nat.mul_mod_left _ _) ha
theorem pow128_le {k : Nat} (h : k ≤ 5) : 128 ^ k ≤ 34359738368 := by
  have : (128 : Nat) ^ k ≤ 128 ^ 5 := Nat.pow_le_pow_right (by omega) h
  exact this
theorem or_step {m k : Nat} {c : Int} (hm : m < 128 ^ k) (hk : k < 5) (h0 : 0 ≤ c) (h1 : c ≤ 255) :
    bits .or .i64 (m : Int) (wrap64 (c % 128 * 2 ^ (7 * k))) = ((m + c.toNat % 128 * 128 ^ k : Nat) : Int) := by
  obtain ⟨d, rfl⟩ := Int.eq_ofNat_of_zero_le h0
  have hp := pow128_le (k := k) (by omega)
  have e : ((d : Int) % 128 * 2 ^ (7 * k)) = ((d % 128 * 128 ^ k : Nat) : Int) := by
    have e2 : ((2 : Int) ^ (7 * k)) = ((128 ^ k : Nat) : Int) := by
      rw [show (128 : Nat) ^ k = 2 ^ (7 * k) by rw [Nat.pow_mul]]
      exact (Int.natCast_pow 2 (7 * k)).symm
    rw [e2, Int.natCast_mul]
    rfl
  have hb : d % 128 * 128 ^ k ≤ 127 * 34359738368 := Nat.mul_le_mul (by omega) hp
  rw [e, IntWalk.wrap64_in _ (by omega), i64_or_nat _ _ (by omega) (by omega), or_acc hm]
  simp
theorem scanN_end {bs : List UInt8} {A k : Nat} (h5 : k < 5) (h : ¬ A + k < bs.length) : scanN bs A (5 - k) k = none := by
  rw [show 5 - k = (4 - k) + 1 by omega]
  unfold scanN
  rw [if_neg h]
theorem scanN_last {bs : List UInt8} {A k : Nat} (h5 : k < 5) (h : A + k < bs.length) (hc : byteAt bs (A + k) < 128) : scanN bs A (5 - k) k = some k := by
  rw [show 5 - k = (4 - k) + 1 by omega]
  unfold scanN
  rw [if_pos h, if_pos hc]
theorem scanN_more {bs : List UInt8} {A k : Nat} (h5 : k < 5) (h : A + k < bs.length) (hc : ¬ byteAt bs (A + k) < 128) : scanN bs A (5 - k) k = scanN bs A (5 - (k + 1)) (k + 1) := by
  rw [show 5 - k = (5 - (k + 1)) + 1 by omega]
  rw [scanN, if_pos h, if_neg hc]
theorem scanN_ge {bs : List UInt8} {A : Nat} : ∀ f k r, scanN bs A f k = some r → k ≤ r ∧ r < k + f
  | 0, k, r, h => by simp [scanN] at h
  | f + 1, k, r, h => by
    unfold scanN at h
    split at h
    · split at h
      · simp at h; omega
      · have := scanN_ge f (k + 1) r h; omega
    · simp at h
theorem scanN_lt {bs : List UInt8} {A r : Nat} (h : scanN bs A 5 0 = some r) : r < 5 := by have := scanN_ge 5 0 r h; omega
theorem numR_none {bs : List UInt8} {A : Nat} (h : scanN bs A 5 0 = none) : numR bs (A : Int) = (0, 0, false) := by
  unfold numR
  rw [if_neg (by omega), Int.toNat_natCast, h]
theorem numR_some {bs : List UInt8} {A k : Nat} (h : scanN bs A 5 0 = some k) : numR bs (A : Int) = if (k ≠ 0 ∧ byteAt bs (A + k) = 0) ∨ 2000000000 < accN bs A (k + 1) then (0, 0, false) else (unfN (accN bs A (k + 1)), (A : Int) + k + 1, true) := by
  unfold numR
  rw [if_neg (by omega), Int.toNat_natCast, h]
theorem numR_neg {bs : List UInt8} {a : Int} (h : a < 0) : numR bs a = (0, 0, false) := by
  unfold numR
  rw [if_pos h]
theorem numR_past {bs : List UInt8} {a : Int} (h : (bs.length : Int) ≤ a) : numR bs a = (0, 0, false) := by
  obtain ⟨A, rfl⟩ := Int.eq_ofNat_of_zero_le (show 0 ≤ a by omega)
  exact numR_none (scanN_out (by omega) _ _)
theorem unfN_odd {m : Nat} (h : m % 2 = 1) : unfN m = -((m : Int) / 2) - 1 := by unfold unfN; rw [if_pos h]; omega
theorem unfN_even {m : Nat} (h : ¬ m % 2 = 1) : unfN m = (m : Int) / 2 := by unfold unfN; rw [if_neg h]; omega
theorem unfN_in (m : Nat) : inB (unfN m) (-1000000000) 1000000000 = !decide (2000000000 < m) := by
  by_cases h : m % 2 = 1
  · rw [unfN_odd h]
    by_cases h2 : 2000000000 < m
    · rw [inB_f (by omega)]; simp [h2]
    · rw [inB_t (by omega)]; simp [h2]
  · rw [unfN_even h]
    by_cases h2 : 2000000000 < m
    · rw [inB_f (by omega)]; simp [h2]
    · rw [inB_t (by omega)]; simp [h2]
theorem ret_num {bs : List UInt8} {A : Nat} {x y : Int} {z : Bool} (h : numR bs (A : Int) = (x, y, z)) :
    Ending.returned (.tuple #[.int .i64 x, .int .i64 y, .bool z]) = .returned (.tuple #[.int .i64 (numR bs (A : Int)).1, .int .i64 (numR bs (A : Int)).2.1, .bool (numR bs (A : Int)).2.2]) := by rw [h]

/-- what the groups at a place hold: the number as it was folded, the place behind, whether the form is the shortest -/
def grpR (bs : List UInt8) (A : Nat) : Int × Int × Bool :=
  match scanN bs A 5 0 with
  | none => (0, 0, false)
  | some k => (((accN bs A (k + 1) : Nat) : Int), (A : Int) + k + 1, k == 0 || byteAt bs (A + k) != 0)
theorem grpR_none {bs : List UInt8} {A : Nat} (h : scanN bs A 5 0 = none) : grpR bs A = (0, 0, false) := by unfold grpR; rw [h]
theorem grpR_some {bs : List UInt8} {A k : Nat} (h : scanN bs A 5 0 = some k) : grpR bs A = (((accN bs A (k + 1) : Nat) : Int), (A : Int) + k + 1, k == 0 || byteAt bs (A + k) != 0) := by unfold grpR; rw [h]
theorem ret_grp {bs : List UInt8} {A : Nat} {x y : Int} {z : Bool} (h : grpR bs A = (x, y, z)) :
    Ending.returned (.tuple #[.int .i64 x, .int .i64 y, .bool z]) = .returned (.tuple #[.int .i64 (grpR bs A).1, .int .i64 (grpR bs A).2.1, .bool (grpR bs A).2.2]) := by rw [h]
/-- the number out of its groups -/
theorem numR_grp (bs : List UInt8) (A : Nat) : ∃ M : Nat, M < 34359738368 ∧ (grpR bs A).1 = (M : Int) ∧
    numR bs (A : Int) = if (grpR bs A).2.2 = false ∨ 2000000000 < M then (0, 0, false) else (unfN M, (grpR bs A).2.1, true) := by
  cases h : scanN bs A 5 0 with
  | none => exact ⟨0, by omega, by rw [grpR_none h]; rfl, by rw [numR_none h, grpR_none h]; simp⟩
  | some k =>
    have hk : k < 5 := scanN_lt h
    have hlt := accN_lt bs A (k + 1)
    have hp := pow128_le (k := k + 1) (by omega)
    refine ⟨accN bs A (k + 1), by omega, by rw [grpR_some h], ?_⟩
    rw [numR_some h, grpR_some h]
    by_cases h1 : k = 0 <;> by_cases h2 : byteAt bs (A + k) = 0 <;> by_cases h3 : 2000000000 < accN bs A (k + 1) <;> simp [h1, h2, h3]

theorem scanN_some {bs : List UInt8} {A : Nat} : ∀ f k r, scanN bs A f k = some r → A + r < bs.length
  | 0, k, r, h => by simp [scanN] at h
  | f + 1, k, r, h => by
    unfold scanN at h
    split at h
    · split at h
      · simp at h; omega
      · exact scanN_some f (k + 1) r h
    · simp at h
/-- a number that was read lies within the bytes -/
theorem numR_true {bs : List UInt8} {x : Int} (h : (numR bs x).2.2 = true) : 0 ≤ x ∧ x < (numR bs x).2.1 ∧ (numR bs x).2.1 ≤ bs.length := by
  by_cases h0 : x < 0
  · rw [numR_neg h0] at h; cases h
  · obtain ⟨A, rfl⟩ := Int.eq_ofNat_of_zero_le (show 0 ≤ x by omega)
    cases hs : scanN bs A 5 0 with
    | none => rw [numR_none hs] at h; cases h
    | some k =>
      rw [numR_some hs] at h ⊢
      split at h
      · cases h
      · rename_i hc
        rw [if_neg hc]
        have := scanN_some 5 0 k hs
        simp only
        omega
end Go.Proofs.YtlaoiagpoomldaaDoor
/-
  Numbers as bytes, plainly: what PutNum writes behind. No program is spoken of here.
-/
namespace Go.Proofs.YtlaoiagpoomldaaDoor
open Go.RowKit
set_option linter.unusedVariables false

/-- the number as it is kept: no further out than the most either way -/
def clampN (n : Int) : Int := if n < -1000000000 then -1000000000 else if 1000000000 < n then 1000000000 else n
def foldN (n : Int) : Nat := if n < 0 then (-2 * n - 1).toNat else (2 * n).toNat
/-- its groups of seven bits, the lowest first -/
def encG : Nat → Nat → List UInt8
  | 0, m => [UInt8.ofNat m]
  | f + 1, m => if m < 128 then [UInt8.ofNat m] else UInt8.ofNat (m % 128 + 128) :: encG f (m / 128)
def encN (n : Int) : List UInt8 := encG 5 (foldN (clampN n))

theorem clampN_in (n : Int) : -1000000000 ≤ clampN n ∧ clampN n ≤ 1000000000 := by unfold clampN; split; omega; split <;> omega
theorem foldN_le {n : Int} (h : -1000000000 ≤ n ∧ n ≤ 1000000000) : foldN n ≤ 2000000000 := by unfold foldN; split <;> omega
theorem foldN_neg {n : Int} (h : n < 0) : ((foldN n : Nat) : Int) = -2 * n - 1 := by unfold foldN; rw [if_pos h]; omega
theorem foldN_pos {n : Int} (h : ¬ n < 0) : ((foldN n : Nat) : Int) = 2 * n := by unfold foldN; rw [if_neg h]; omega
theorem fold_cases (n : Int) : (1000000000 < n ∧ ((foldN (clampN n) : Nat) : Int) = 2000000000) ∨ (n < -1000000000 ∧ ((foldN (clampN n) : Nat) : Int) = 1999999999) ∨
    ((-1000000000 ≤ n ∧ n < 0) ∧ ((foldN (clampN n) : Nat) : Int) = -2 * n - 1) ∨ ((0 ≤ n ∧ n ≤ 1000000000) ∧ ((foldN (clampN n) : Nat) : Int) = 2 * n) := by
  unfold clampN
  split
  · rw [foldN_neg (by omega)]; omega
  · split
    · rw [foldN_pos (by omega)]; omega
    · by_cases h : n < 0
      · rw [foldN_neg h]; omega
      · rw [foldN_pos h]; omega
theorem encG_length : ∀ f m, (encG f m).length ≤ f + 1
  | 0, m => by simp [encG]
  | f + 1, m => by
    unfold encG
    split
    · simp
    · have := encG_length f (m / 128); simp; omega
theorem encN_length (n : Int) : (encN n).length ≤ 6 := encG_length 5 _
theorem encG_small {f m : Nat} (h : m < 128) : encG f m = [UInt8.ofNat m] := by
  cases f with
  | zero => rfl
  | succ f => unfold encG; rw [if_pos h]
theorem encG_big {f m : Nat} (h : ¬ m < 128) : encG (f + 1) m = UInt8.ofNat (m % 128 + 128) :: encG f (m / 128) := by
  rw [encG, if_neg h]
theorem enc_step {f m : Nat} (hb : ¬ m < 128) (hm : m < 128 ^ f) : ∃ g, f = g + 1 ∧ m / 128 < 128 ^ g ∧ encG f m = UInt8.ofNat (m % 128 + 128) :: encG g (m / 128) := by
  cases f with
  | zero => simp at hm; omega
  | succ g =>
    refine ⟨g, rfl, ?_, encG_big hb⟩
    rw [Nat.pow_succ] at hm
    exact Nat.div_lt_of_lt_mul (by omega)
theorem or128 (m : Nat) : bits .or .i64 ((m : Int) % 128) 128 = (m : Int) % 128 + 128 := by
  have h := i64_or_nat (m % 128) 128 (by omega) (by omega)
  have h2 : m % 128 ||| 128 = m % 128 + 128 := by
    rw [Nat.or_comm, Nat.add_comm]
    exact nat_join 7 128 (m % 128) (by decide) (by omega)
  rw [h2] at h
  have e : (((m % 128 : Nat) : Int)) = (m : Int) % 128 := by omega
  rw [e] at h
  rw [show ((m % 128 + 128 : Nat) : Int) = (m : Int) % 128 + 128 by omega] at h
  exact h
theorem vals_cont (m : Nat) : [Value.int .u8 ((m : Int) % 128 + 128)] = vals [UInt8.ofNat (m % 128 + 128)] := by
  simp [vals]; omega
theorem vals_last {m : Nat} (h : m < 128) : [Value.int .u8 (m : Int)] = vals [UInt8.ofNat m] := by
  simp [vals]; omega
theorem one_cell (v : Value) (w : World) (e : TypeId) : ∀ j u, [v][j]? = some u → (w.alloc (.cells #[v] e)).cell? ((⟨w.heap.size, 0, none⟩ : Addr).add j) = some u := by
  intro j u hj
  match j, hj with
  | 0, hj => simp at hj; subst hj; simp [Addr.add]
theorem vals_one (bs : List UInt8) : ∀ u ∈ vals bs, u.oneCell' = true := by
  intro u hu
  obtain ⟨_, _, rfl⟩ := List.mem_map.1 hu
  rfl
theorem pre_length {pre r : List UInt8} {n : Int} (h : pre ++ r = encN n) : pre.length ≤ 6 := by
  have := encN_length n; rw [← h] at this; simp at this; omega
theorem encG_pos : ∀ f m, 0 < (encG f m).length
  | 0, m => by simp [encG]
  | f + 1, m => by unfold encG; split <;> simp
theorem encN_pos (n : Int) : 0 < (encN n).length := encG_pos _ _
end Go.Proofs.YtlaoiagpoomldaaDoor
/-
  The contracts of the draws of bytes: a new cursor; some bytes drawn into a row of the call's own.
-/
namespace Go.Proofs.YtlaoiagpoomldaaDoor
open Go.RowKit
set_option linter.unusedVariables false

theorem grown_more {a b c : World} {q : Option Nat} {row : Option Nat} (h : a.grownBy b q) (k : b.grownBy c row) (hr : ∀ j, row = some j → a.heap.size ≤ j) : a.grownBy c q :=
  ⟨k.os.trans h.os, k.tape.trans h.tape, k.output.trans h.output, Nat.le_trans h.size k.size,
    fun i hi hne => (k.block i (Nat.lt_of_lt_of_le hi h.size) (fun e => by have := hr i e.symm; omega)).trans (h.block i hi hne)⟩

theorem owns_base {w : World} {base base' n size : Nat} {e : TypeId} {v : Value} {xs : List Value} (h : w.ownsRow base e size v n xs) (hb : base' ≤ base) : w.ownsRow base' e size v n xs := by
  refine ⟨h.1, ?_⟩
  rcases h.2 with h2 | ⟨g, cap, cur, h1, hb', rest⟩
  · exact .inl h2
  · exact .inr ⟨g, cap, cur, h1, by omega, rest⟩

set_option maxRecDepth 100000 in
set_option maxHeartbeats 1600000 in
theorem l1New_any (B : Nat) (a : Option Addr) (cap : Nat) (code : List UInt8) (w : World) (hr : RdB B w a code) (hn : code.length ≤ 1048576) (hB : B ≤ w.heap.size) :
    Calls Tryd.prog 11 #[.slice a code.length cap] w fun e w' => e = .returned (.pointer (some ⟨w.heap.size, 0, none⟩)) ∧ Cur B w' w.heap.size ∧ w.grownBy w' none := by
  obtain ⟨n, hN⟩ : ∃ n, n = code.length := ⟨_, rfl⟩
  rw [← hN] at hn ⊢
  have HN := hide hN
  clear hN
  go_enter Tryd.func11, Tryd.ntmps11
  go_wp2
  go_loop [3, 4] (fun h i => ∃ (k : Nat) (x : Int), k ≤ n ∧ i = .int .i64 k ∧ h = .int .i64 x) (fun _ i => n - (intOf i).toNat)
  case atStart => exact ⟨0, _, Nat.zero_le _, rfl, rfl⟩
  case round =>
    obtain ⟨k, x, hk, rfl, rfl⟩ := hrel
    by_cases hlt : k < n ∧ k < 4000
    · obtain ⟨h1, h2⟩ := hlt
      obtain ⟨b, off, hab, hbB, hcell⟩ := hr k (by rw [← HN.out]; exact h1)
      have y1 := byteAt_lo code k
      have y2 := byteAt_hi code k
      generalize byteAt code k = y at hcell y1 y2
      subst hab
      go_wp2
      go_round
      case rel => exact ⟨k + 1, _, by omega, by go_num, rfl⟩
      case measure => simp [intOf]; omega
    · by_cases h1 : k < n
      all_goals
        go_wp2
        go_ret
        refine ⟨rfl, ⟨hB, a, cap, code, 0, x, by rw [← HN.out]; exact hn, Nat.zero_le _, hr.below ((Below.refl _ _).alloc hB _), ?_⟩, World.grownBy_alloc _ _ _⟩
        rw [heap_alloc_new, ← HN.out]; rfl

theorem cells_lit (w : World) (T : TypeId) (zs : List Int) : ∀ k, k < zs.length → (w.alloc (.cells (zs.map (Value.int .i64)).toArray T)).cell? ⟨w.heap.size, k, none⟩ = some (.int .i64 (zs.getD k 0)) := by
  intro k hk
  rw [cell_of_row _ w.heap.size k _ T (0, 0) (heap_alloc_new w _)]
  simp [List.getD, hk]

end Go.Proofs.YtlaoiagpoomldaaDoor
/-
  The contracts of the draws of values: some value, whatever it is, with a text of at most 21 bytes.
-/
namespace Go.Proofs.YtlaoiagpoomldaaDoor
open Go.RowKit
set_option linter.unusedVariables false

theorem box_grown {w w' : World} {R q : Nat} {o : Obj} (h : w.heap[R]? = some o) (hg : w.grownBy w' (some q)) (hne : R ≠ q) : w'.heap[R]? = some o := by
  rw [hg.block R (Array.getElem?_eq_some_iff.1 h).1 (by simp; omega)]; exact h
theorem box_alloc {w : World} {R : Nat} {o : Obj} (h : w.heap[R]? = some o) (x : Obj) : (w.alloc x).heap[R]? = some o := box_old h (Array.getElem?_eq_some_iff.1 h).1 x
theorem grown_alloc (w : World) (o : Obj) (q : Nat) : w.grownBy (w.alloc o) (some q) := World.grownBy_alloc w o _

set_option maxHeartbeats 400000 in
theorem l1Once_any (B q : Nat) (n : Int) (w : World) (hc : Cur B w q) (hn : 0 < n) (hn2 : n ≤ 1000000) :
    Calls Tryd.prog 38 #[.pointer (some ⟨q, 0, none⟩), .int .i64 n] w fun e w' => ∃ b : Bool, e = .returned (.bool b) ∧ Cur B w' q ∧ w.grownBy w' (some q) := by
  go_enter Tryd.func38, Tryd.ntmps38
  go_wp2_with fail
  refine (l1Below_any B q n w hc hn hn2).mono ?_
  rintro e w1 ⟨x, rfl, x0, x1, c1, g1⟩
  go_wp2
  go_ret
  exact ⟨_, rfl, c1, g1⟩

set_option maxHeartbeats 1600000 in
theorem l1Str_any (B q l : Nat) (zs : List ByteArray) (cap : Nat) (w : World) (hc : Cur B w q) (hn : 0 < zs.length) (hn2 : zs.length ≤ 1000) (hq : l ≠ q)
    (hz : ∀ k, k < zs.length → w.cell? ⟨l, k, none⟩ = some (.string (zs.getD k ⟨#[]⟩))) :
    Calls Tryd.prog 24 #[.pointer (some ⟨q, 0, none⟩), .slice (some ⟨l, 0, none⟩) zs.length cap] w fun e w' => ∃ x : ByteArray, e = .returned (.string x) ∧ x ∈ zs ∧ Cur B w' q ∧ w.grownBy w' (some q) := by
  obtain ⟨n, hN⟩ : ∃ n, n = zs.length := ⟨_, rfl⟩
  rw [← hN] at hn hn2 hz ⊢
  have HZ := hide hz
  have HN := hide hN
  clear hz hN
  go_enter Tryd.func24, Tryd.ntmps24
  go_wp2_with fail
  refine (l1Below_any B q n w hc (by omega) (by omega)).mono ?_
  rintro e w1 ⟨x, rfl, x0, x1, c1, g1⟩
  obtain ⟨k, rfl⟩ := Int.eq_ofNat_of_zero_le x0
  have hk : k < n := by omega
  have h1 : w1.cell? ⟨l, k, none⟩ = some (.string (zs.getD k ⟨#[]⟩)) := g1.cell (HZ.out k hk) (by simp; exact hq)
  have HM : Hid (zs.getD k ⟨#[]⟩ ∈ zs) := by
    have hk2 : k < zs.length := by rw [← HN.out]; exact hk
    unfold Hid
    simp [List.getD, hk2]
  generalize zs.getD k ⟨#[]⟩ = z at h1 HM
  go_wp2
  go_ret
  exact ⟨_, rfl, HM.out, c1, g1⟩

theorem cells_strs (w : World) (T : TypeId) (zs : List ByteArray) : ∀ k, k < zs.length → (w.alloc (.cells (zs.map Value.string).toArray T)).cell? ⟨w.heap.size, k, none⟩ = some (.string (zs.getD k ⟨#[]⟩)) := by
  intro k hk
  rw [cell_of_row _ w.heap.size k _ T (0, 0) (heap_alloc_new w _)]
  simp [List.getD, hk]

end Go.Proofs.YtlaoiagpoomldaaDoor
/-
  The contract of the draw of a small value: some value with a short text.
-/
namespace Go.Proofs.YtlaoiagpoomldaaDoor
open Go.RowKit
set_option linter.unusedVariables false

set_option maxRecDepth 100000 in
set_option maxHeartbeats 1600000 in
theorem l3Small_any (B q : Nat) (w : World) (hc : Cur B w q) :
    Calls Tryd.prog 25 #[.pointer (some ⟨q, 0, none⟩)] w fun e w' => ∃ (v : V3), e = .returned (.agg #[.int .i64 v.K, .int .i64 v.N, .string v.S]) ∧ v.S.size ≤ 21 ∧ Cur B w' q ∧ w.grownBy w' (some q) := by
  have hq := hc.lt
  have hB := hc.1
  go_enter Tryd.func25, Tryd.ntmps25
  go_wp2_with fail
  refine (l1Once_any B q 2 _ (hc.keep (World.grownBy_alloc w _ none) (by simp) (by simp)) (by omega) (by omega)).mono ?_
  rintro e w1 ⟨b, rfl, c1, g1⟩
  have HR := hide (box_grown (box_new w (.int .i64 0) (.int .i64 0) (.string ⟨#[]⟩) 30) g1 (by omega))
  have G1 : w.grownBy w1 (some q) := grown_trans (grown_alloc w _ q) g1
  have z1 := G1.size
  have l1 := (Array.getElem?_eq_some_iff.1 HR.out).1
  clear g1
  cases b
  · go_wp2_with fail
    refine (l1Str_any B q w1.heap.size [⟨#[97]⟩, ⟨#[98]⟩] 2 _ (c1.keep (World.grownBy_alloc w1 _ none) (by simp) (by simp)) (by decide) (by decide) (by omega) (cells_strs w1 9 _)).mono ?_
    rintro e w2 ⟨s, rfl, hx, c2, g2⟩
    have HS : Hid (s.size ≤ 21) := by
      unfold Hid
      simp only [List.mem_cons, List.not_mem_nil, or_false] at hx
      rcases hx with rfl | rfl <;> decide
    have HR2 := hide (box_grown (box_alloc HR.out _) g2 (by omega))
    have G2 : w.grownBy w2 (some q) := grown_trans (grown_trans G1 (grown_alloc w1 _ q)) g2
    obtain ⟨a0, a1, a2, f0, f1, f2⟩ := box_cell HR2.out
    clear hx g2 HR c1
    go_wp2
    refine box_post HR2.out (fun w3 h3 gr => ?_)
    clear a0 a1 a2 f0 f1 f2
    obtain ⟨a0, a1, a2, -, -, -⟩ := box_cell h3
    refine bodyPost_ret (v := .agg #[.int .i64 2, .int .i64 0, .string s]) (by simp [results, Tryd.results25, go_sem, a0, a1, a2]) rfl ⟨⟨2, 0, s⟩, rfl, HS.out, c2.keep gr (by simp; omega) (by intro k hk; cases hk; omega), grown_more G2 gr (by intro k hk; cases hk; omega)⟩
  · go_wp2_with fail
    refine (l1Below_any B q 3 _ c1 (by omega) (by omega)).mono ?_
    rintro e w2 ⟨x, rfl, x0, x1, c2, g2⟩
    have HR2 := hide (box_grown HR.out g2 (by omega))
    have G2 : w.grownBy w2 (some q) := grown_trans G1 g2
    obtain ⟨a0, a1, a2, f0, f1, f2⟩ := box_cell HR2.out
    clear g2 HR c1
    go_wp2
    refine box_post HR2.out (fun w3 h3 gr => ?_)
    clear a0 a1 a2 f0 f1 f2
    obtain ⟨a0, a1, a2, -, -, -⟩ := box_cell h3
    refine bodyPost_ret (v := .agg #[.int .i64 1, .int .i64 (1 + x), .string ⟨#[]⟩]) (by simp [results, Tryd.results25, go_sem, a0, a1, a2]) rfl ⟨⟨1, 1 + x, ⟨#[]⟩⟩, rfl, (show (⟨#[]⟩ : ByteArray).size ≤ 21 by decide), c2.keep gr (by simp; omega) (by intro k hk; cases hk; omega), grown_more G2 gr (by intro k hk; cases hk; omega)⟩
end Go.Proofs.YtlaoiagpoomldaaDoor
/-
  The contracts of the laws' own helpers on values: toVal copies, szVal counts the text's bytes off.
-/
namespace Go.Proofs.YtlaoiagpoomldaaDoor
open Go.RowKit
set_option linter.unusedVariables false

end Go.Proofs.YtlaoiagpoomldaaDoor
/-
  The contract of the laws' own comparison of values: a value is the same as itself.
-/
namespace Go.Proofs.YtlaoiagpoomldaaDoor
open Go.RowKit
set_option linter.unusedVariables false

end Go.Proofs.YtlaoiagpoomldaaDoor
/-
  The contracts of the laws' own helpers on rows of values and on facts.
-/
namespace Go.Proofs.YtlaoiagpoomldaaDoor
open Go.RowKit
set_option linter.unusedVariables false

theorem Tryd.info30 : (Tryd.prog.info? 30).map (fun i => (i.zero, i.size, i.bytes)) = some (some (.agg #[.int .i64 0, .int .i64 0, .string ⟨#[]⟩]), 3, 32) := by kernel_rfl

/-- the first k values copied, the rest still zero -/
def partV (L : List V3) (k : Nat) : List V3 := L.take k ++ List.replicate (L.length - k) ⟨0, 0, ⟨#[]⟩⟩
theorem partV_length {L : List V3} {k : Nat} (h : k ≤ L.length) : (partV L k).length = L.length := by simp [partV]; omega
theorem partV_zero (L : List V3) : partV L 0 = List.replicate L.length ⟨0, 0, ⟨#[]⟩⟩ := by simp [partV]
theorem partV_end (L : List V3) : partV L L.length = L := by simp [partV]
theorem cells3_set (L M : List V3) (v : V3) (x : V3) :
    (((cells3 (L ++ x :: M)).set (L.length * 3) (.int .i64 v.K)).set (L.length * 3 + 1) (.int .i64 v.N)).set (L.length * 3 + 2) (.string v.S) = cells3 (L ++ v :: M) := by
  have e : ∀ y : V3, cells3 (L ++ y :: M) = cells3 L ++ (.int .i64 y.K :: .int .i64 y.N :: .string y.S :: cells3 M) := fun y => by simp [cells3]
  have hl := cells3_length L
  rw [e, e, List.set_append_right _ _ (by omega), hl, Nat.sub_self, List.set_append_right _ _ (by omega), hl, List.set_append_right _ _ (by omega), hl]
  simp
theorem partV_set {L : List V3} {k : Nat} (h : k < L.length) :
    (((cells3 (partV L k)).set (k * 3) (.int .i64 (vAt L k).K)).set (k * 3 + 1) (.int .i64 (vAt L k).N)).set (k * 3 + 2) (.string (vAt L k).S) = cells3 (partV L (k + 1)) := by
  have h1 : partV L k = L.take k ++ ⟨0, 0, ⟨#[]⟩⟩ :: List.replicate (L.length - (k + 1)) ⟨0, 0, ⟨#[]⟩⟩ := by
    unfold partV; rw [show L.length - k = (L.length - (k + 1)) + 1 by omega, List.replicate_succ]
  have h2 : partV L (k + 1) = L.take k ++ vAt L k :: List.replicate (L.length - (k + 1)) ⟨0, 0, ⟨#[]⟩⟩ := by
    unfold partV; rw [List.take_succ_eq_append_getElem h, vAt_in h, List.append_assoc]; rfl
  have := cells3_set (L.take k) (List.replicate (L.length - (k + 1)) ⟨0, 0, ⟨#[]⟩⟩) (vAt L k) ⟨0, 0, ⟨#[]⟩⟩
  rw [List.length_take, Nat.min_eq_left (by omega)] at this
  rw [h1, h2]; exact this
theorem made3 (n : Nat) : (madeCells #[Value.int .i64 0, .int .i64 0, .string ⟨#[]⟩] (n * 3)).toList = cells3 (List.replicate n ⟨0, 0, ⟨#[]⟩⟩) := by
  have hl : (madeCells #[Value.int .i64 0, .int .i64 0, .string ⟨#[]⟩] (n * 3)).toList.length = n * 3 := by simp [madeCells]
  apply List.ext_getElem?
  intro j
  by_cases hj : j < n * 3
  · obtain ⟨i, r, rfl, hr⟩ : ∃ i r, j = i * 3 + r ∧ r < 3 := ⟨j / 3, j % 3, by omega, by omega⟩
    have hi : i < (List.replicate n (⟨0, 0, ⟨#[]⟩⟩ : V3)).length := by simp; omega
    obtain ⟨g0, g1, g2⟩ := cells3_get (List.replicate n ⟨0, 0, ⟨#[]⟩⟩) i hi
    have ev : vAt (List.replicate n (⟨0, 0, ⟨#[]⟩⟩ : V3)) i = ⟨0, 0, ⟨#[]⟩⟩ := by rw [vAt_in hi]; simp
    rw [ev] at g0 g1 g2
    match r, hr with
    | 0, _ => rw [Nat.add_zero, g0]; simp [madeCells, show i * 3 < n * 3 by omega]
    | 1, _ => rw [g1]; simp [madeCells, show i * 3 + 1 < n * 3 by omega, show (i * 3 + 1) % 3 = 1 by omega]
    | 2, _ => rw [g2]; simp [madeCells, show i * 3 + 2 < n * 3 by omega, show (i * 3 + 2) % 3 = 2 by omega]
  · rw [List.getElem?_eq_none (by omega), List.getElem?_eq_none (by rw [cells3_length]; simp; omega)]

theorem ownsRow_below {w w' : World} {base n size : Nat} {e : TypeId} {v : Value} {xs : List Value} (h : w.ownsRow base e size v n xs) (hb : Below w.heap.size w w') : w'.ownsRow base e size v n xs := by
  refine ⟨h.1, ?_⟩
  rcases h.2 with h2 | ⟨g, cap, cur, h1, hb', hh, rest⟩
  · exact .inl h2
  · exact .inr ⟨g, cap, cur, h1, hb', by rw [hb.block g (Array.getElem?_eq_some_iff.1 hh).1]; exact hh, rest⟩

def szL (L : List V3) : Nat := L.length + (L.map fun v => v.S.size).sum
def sumS (L : List V3) (k : Nat) : Nat := ((L.take k).map fun v => v.S.size).sum
theorem sumS_step {L : List V3} {k : Nat} (h : k < L.length) : sumS L (k + 1) = sumS L k + (vAt L k).S.size := by
  unfold sumS; rw [List.take_succ_eq_append_getElem h, vAt_in h, List.map_append, List.sum_append]; simp only [List.map_cons, List.map_nil, List.sum_cons, List.sum_nil, Nat.add_zero]
theorem sumS_end (L : List V3) : sumS L L.length = (L.map fun v => v.S.size).sum := by unfold sumS; rw [List.take_length]
theorem mem_sum : ∀ {l : List Nat} {x : Nat}, x ∈ l → x ≤ l.sum
  | y :: r, x, h => by
    rw [List.sum_cons]
    rcases List.mem_cons.1 h with rfl | h
    · omega
    · have := mem_sum h; omega
theorem szL_mem {L : List V3} {v : V3} (h : v ∈ L) : v.S.size + L.length ≤ szL L := by
  unfold szL
  have : v.S.size ≤ (L.map fun v => v.S.size).sum := mem_sum (List.mem_map.2 ⟨v, h, rfl⟩)
  omega

end Go.Proofs.YtlaoiagpoomldaaDoor
/-
  The contracts of the laws' own helpers on Args: to copies, sz counts off, eq finds one the same as itself; so of rows of them.
-/
namespace Go.Proofs.YtlaoiagpoomldaaDoor
open Go.RowKit
set_option linter.unusedVariables false

theorem Tryd.info32 : (Tryd.prog.info? 32).map (fun i => (i.zero, i.size, i.bytes)) = some (some (.agg #[.int .i64 0, .string ⟨#[]⟩, .int .i64 0, .int .i64 0, .string ⟨#[]⟩]), 5, 56) := by kernel_rfl

theorem keepArg {w0 W w' : World} {B : Nat} {p0 p1 p2 p3 p4 p5 p6 p7 p8 p9 : Addr} {v0 v1 v2 v3 v4 v5 v6 v7 v8 v9 : Value} (hb : Below W.heap.size W w')
    (h : W.cell? p0 = some v0 ∧ W.cell? p1 = some v1 ∧ W.cell? p2 = some v2 ∧ W.cell? p3 = some v3 ∧ W.cell? p4 = some v4 ∧ W.cell? p5 = some v5 ∧ W.cell? p6 = some v6 ∧ W.cell? p7 = some v7 ∧ W.cell? p8 = some v8 ∧ W.cell? p9 = some v9 ∧ Below B w0 W ∧ B ≤ W.heap.size) :
    w'.cell? p0 = some v0 ∧ w'.cell? p1 = some v1 ∧ w'.cell? p2 = some v2 ∧ w'.cell? p3 = some v3 ∧ w'.cell? p4 = some v4 ∧ w'.cell? p5 = some v5 ∧ w'.cell? p6 = some v6 ∧ w'.cell? p7 = some v7 ∧ w'.cell? p8 = some v8 ∧ w'.cell? p9 = some v9 ∧ Below B w0 w' ∧ B ≤ w'.heap.size := by
  obtain ⟨q0, q1, q2, q3, q4, q5, q6, q7, q8, q9, h6, h7⟩ := h
  have k : ∀ {a : Addr} {v : Value}, W.cell? a = some v → w'.cell? a = some v := fun {a v} h => by rw [hb.cell (World.block_lt_of_cell? W _ h)]; exact h
  exact ⟨k q0, k q1, k q2, k q3, k q4, k q5, k q6, k q7, k q8, k q9, h6.trans (hb.mono h7), Nat.le_trans h7 hb.size⟩
end Go.Proofs.YtlaoiagpoomldaaDoor
/-
  The contracts of the draws of arguments: some, whatever they are, with short texts.
-/
namespace Go.Proofs.YtlaoiagpoomldaaDoor
open Go.RowKit
set_option linter.unusedVariables false

theorem box3_set1 {w : World} {q : Nat} {c0 c1 c2 : Value} {T : TypeId} (h : w.heap[q]? = some (.cells #[c0, c1, c2] T (0, 0))) (u : Value) :
    (w.setCell ⟨q, 1, none⟩ u).heap[q]? = some (.cells #[c0, u, c2] T (0, 0)) ∧ w.grownBy (w.setCell ⟨q, 1, none⟩ u) (some q) := boxk_set h 1 u
theorem src5 (W : World) (x : A5) : ∀ j u, (x.cs)[j]? = some u → (W.alloc (.cells #[.int .i64 x.K, .string x.S, .int .i64 x.V.K, .int .i64 x.V.N, .string x.V.S] 32)).cell? ((⟨W.heap.size, 0, none⟩ : Addr).add j) = some u := by
  intro j u hj
  rw [Addr.add_lit, Nat.zero_add]
  have hb : (W.alloc (.cells #[.int .i64 x.K, .string x.S, .int .i64 x.V.K, .int .i64 x.V.N, .string x.V.S] 32)).heap[W.heap.size]? = some (.cells #[.int .i64 x.K, .string x.S, .int .i64 x.V.K, .int .i64 x.V.N, .string x.V.S] 32 (0, 0)) := by rw [heap_alloc_new]
  rw [cell_of_row _ _ j _ _ (0, 0) hb, ← hj]
  simp [A5.cs]
theorem one5 (x : A5) : ∀ u ∈ x.cs, u.oneCell' = true := by
  intro u hu
  simp only [A5.cs, List.mem_cons, List.not_mem_nil, or_false] at hu
  rcases hu with rfl | rfl | rfl | rfl | rfl <;> rfl
theorem below_grown {w w' : World} {q : Nat} (h : Below w.heap.size w w') : w.grownBy w' (some q) := ⟨h.os, h.tape, h.output, h.size, fun i hi _ => h.block i hi⟩

set_option maxRecDepth 100000 in
set_option maxHeartbeats 800000 in
theorem l6Var_any (s : ByteArray) (w : World) :
    Calls Tryd.prog 37 #[.string s] w fun e w' => e = .returned (.agg #[.int .i64 1, .string s, .int .i64 0, .int .i64 0, .string ⟨#[]⟩]) ∧ Below w.heap.size w w' := by
  go_enter Tryd.func37, Tryd.ntmps37
  go_wp2
  go_returns
  exact ⟨rfl, by go_grown⟩
set_option maxRecDepth 100000 in
set_option maxHeartbeats 800000 in
theorem l6Val_any (v : V3) (w : World) :
    Calls Tryd.prog 36 #[.agg #[.int .i64 v.K, .int .i64 v.N, .string v.S]] w fun e w' => e = .returned (.agg #[.int .i64 2, .string ⟨#[]⟩, .int .i64 v.K, .int .i64 v.N, .string v.S]) ∧ Below w.heap.size w w' := by
  go_enter Tryd.func36, Tryd.ntmps36
  go_wp2
  go_returns
  exact ⟨rfl, by go_grown⟩

/-- some argument was drawn -/
def DrawnA (w : World) (B q : Nat) (e : Ending) (w' : World) : Prop := ∃ x : A5, e = .returned (.agg #[.int .i64 x.K, .string x.S, .int .i64 x.V.K, .int .i64 x.V.N, .string x.V.S]) ∧ x.small ∧ Cur B w' q ∧ w.grownBy w' (some q)
theorem emp_small : (⟨#[]⟩ : ByteArray).size ≤ 1048576 := by decide

set_option maxRecDepth 100000 in
set_option maxHeartbeats 1600000 in
theorem l6Arg_any (B q : Nat) (w : World) (hc : Cur B w q) :
    Calls Tryd.prog 23 #[.pointer (some ⟨q, 0, none⟩)] w (DrawnA w B q) := by
  have hq := hc.lt
  have hB := hc.1
  go_enter Tryd.func23, Tryd.ntmps23
  go_wp2_with fail
  have c0 : Cur B (w.alloc (.cells #[.int .i64 0, .string ⟨#[]⟩, .int .i64 0, .int .i64 0, .string ⟨#[]⟩] 32)) q := hc.keep (World.grownBy_alloc w _ none) (by simp) (by simp)
  have hR := boxk_new w #[.int .i64 0, .string ⟨#[]⟩, .int .i64 0, .int .i64 0, .string ⟨#[]⟩] 32
  have G0 := grown_alloc w (.cells #[.int .i64 0, .string ⟨#[]⟩, .int .i64 0, .int .i64 0, .string ⟨#[]⟩] 32) q
  refine (l1Below_any B q 6 _ c0 (by omega) (by omega)).mono ?_
  rintro e w1 ⟨x, rfl, x0, x1, c1, g1⟩
  have HR := hide (box_grown hR g1 (by omega))
  have G1 : w.grownBy w1 (some q) := grown_trans G0 g1
  have z1 := G1.size
  have l1 := (Array.getElem?_eq_some_iff.1 HR.out).1
  clear g1 hR G0 c0
  by_cases h0 : x = 0
  · subst h0
    have r0 := boxk_cell HR.out 0 _ rfl
    have r1 := boxk_cell HR.out 1 _ rfl
    have r2 := boxk_cell HR.out 2 _ rfl
    have r3 := boxk_cell HR.out 3 _ rfl
    have r4 := boxk_cell HR.out 4 _ rfl
    have f0 := boxk_frozen HR.out 0
    have f1 := boxk_frozen HR.out 1
    have f2 := boxk_frozen HR.out 2
    have f3 := boxk_frozen HR.out 3
    have f4 := boxk_frozen HR.out 4
    go_wp2
    refine box5_post HR.out (fun w3 h3 gr => ?_)
    clear r0 r1 r2 r3 r4 f0 f1 f2 f3 f4
    have a0 := boxk_cell h3 0 _ rfl
    have a1 := boxk_cell h3 1 _ rfl
    have a2 := boxk_cell h3 2 _ rfl
    have a3 := boxk_cell h3 3 _ rfl
    have a4 := boxk_cell h3 4 _ rfl
    refine bodyPost_ret (v := .agg #[.int .i64 3, .string ⟨#[]⟩, .int .i64 0, .int .i64 0, .string ⟨#[]⟩]) (by simp [results, Tryd.results23, go_sem, a0, a1, a2, a3, a4]) rfl ⟨⟨3, ⟨#[]⟩, ⟨0, 0, ⟨#[]⟩⟩⟩, rfl, ⟨emp_small, emp_small⟩, c1.keep gr (by simp; omega) (by intro k hk; cases hk; omega), grown_more G1 gr (by intro k hk; cases hk; omega)⟩
  · have k0 : (x == 0) = false := by simpa using h0
    by_cases h1 : x = 1
    · subst h1
      clear h0 k0
      go_wp2_with fail
      refine (l3Small_any B q _ c1).mono ?_
      rintro e w2 ⟨v, rfl, hv, c2, g2⟩
      have HR2 := hide (box_grown HR.out g2 (by omega))
      have G2 : w.grownBy w2 (some q) := grown_trans G1 g2
      clear g2 HR c1 G1
      go_wp2_with fail
      refine (l6Val_any v _).mono ?_
      rintro e w3 ⟨rfl, hb3⟩
      have HR3 := hide (box_step HR2.out hb3)
      have G3 : w.grownBy w3 (some q) := grown_trans G2 (below_grown hb3)
      have c3 : Cur B w3 q := c2.keep (⟨hb3.os, hb3.tape, hb3.output, hb3.size, fun i hi _ => hb3.block i hi⟩ : w2.grownBy w3 none) (by simp) (by simp)
      clear hb3 HR2 c2 G2
      have r0 := boxk_cell HR3.out 0 _ rfl
      have r1 := boxk_cell HR3.out 1 _ rfl
      have r2 := boxk_cell HR3.out 2 _ rfl
      have r3 := boxk_cell HR3.out 3 _ rfl
      have r4 := boxk_cell HR3.out 4 _ rfl
      have f0 := boxk_frozen HR3.out 0
      have f1 := boxk_frozen HR3.out 1
      have f2 := boxk_frozen HR3.out 2
      have f3 := boxk_frozen HR3.out 3
      have f4 := boxk_frozen HR3.out 4
      go_wp2
      refine box5_post HR3.out (fun w4 h4 gr => ?_)
      clear r0 r1 r2 r3 r4 f0 f1 f2 f3 f4
      have a0 := boxk_cell h4 0 _ rfl
      have a1 := boxk_cell h4 1 _ rfl
      have a2 := boxk_cell h4 2 _ rfl
      have a3 := boxk_cell h4 3 _ rfl
      have a4 := boxk_cell h4 4 _ rfl
      refine bodyPost_ret (v := .agg #[.int .i64 2, .string ⟨#[]⟩, .int .i64 v.K, .int .i64 v.N, .string v.S]) (by simp [results, Tryd.results23, go_sem, a0, a1, a2, a3, a4]) rfl ⟨⟨2, ⟨#[]⟩, v⟩, rfl, ⟨emp_small, by show v.S.size ≤ 1048576; omega⟩, c3.keep gr (by simp; omega) (by intro k hk; cases hk; omega), grown_more G3 gr (by intro k hk; cases hk; omega)⟩
    · have k1 : (x == 1) = false := by simpa using h1
      clear h0 h1
      go_wp2_with fail
      refine (l1Str_any B q w1.heap.size [⟨#[88]⟩, ⟨#[89]⟩, ⟨#[90]⟩, ⟨#[88]⟩] 4 _ (c1.keep (World.grownBy_alloc w1 _ none) (by simp) (by simp)) (by decide) (by decide) (by omega) (cells_strs w1 9 _)).mono ?_
      rintro e w2 ⟨s, rfl, hx, c2, g2⟩
      have HS : Hid (s.size ≤ 1048576) := by
        unfold Hid
        simp only [List.mem_cons, List.not_mem_nil, or_false] at hx
        rcases hx with rfl | rfl | rfl | rfl <;> decide
      have HR2 := hide (box_grown (box_alloc HR.out _) g2 (by omega))
      have G2 : w.grownBy w2 (some q) := grown_trans (grown_trans G1 (grown_alloc w1 _ q)) g2
      clear hx g2 HR c1 G1
      go_wp2_with fail
      refine (l6Var_any s _).mono ?_
      rintro e w3 ⟨rfl, hb3⟩
      have HR3 := hide (box_step HR2.out hb3)
      have G3 : w.grownBy w3 (some q) := grown_trans G2 (below_grown hb3)
      have c3 : Cur B w3 q := c2.keep (⟨hb3.os, hb3.tape, hb3.output, hb3.size, fun i hi _ => hb3.block i hi⟩ : w2.grownBy w3 none) (by simp) (by simp)
      clear hb3 HR2 c2 G2
      have r0 := boxk_cell HR3.out 0 _ rfl
      have r1 := boxk_cell HR3.out 1 _ rfl
      have r2 := boxk_cell HR3.out 2 _ rfl
      have r3 := boxk_cell HR3.out 3 _ rfl
      have r4 := boxk_cell HR3.out 4 _ rfl
      have f0 := boxk_frozen HR3.out 0
      have f1 := boxk_frozen HR3.out 1
      have f2 := boxk_frozen HR3.out 2
      have f3 := boxk_frozen HR3.out 3
      have f4 := boxk_frozen HR3.out 4
      go_wp2
      refine box5_post HR3.out (fun w4 h4 gr => ?_)
      clear r0 r1 r2 r3 r4 f0 f1 f2 f3 f4
      have a0 := boxk_cell h4 0 _ rfl
      have a1 := boxk_cell h4 1 _ rfl
      have a2 := boxk_cell h4 2 _ rfl
      have a3 := boxk_cell h4 3 _ rfl
      have a4 := boxk_cell h4 4 _ rfl
      refine bodyPost_ret (v := .agg #[.int .i64 1, .string s, .int .i64 0, .int .i64 0, .string ⟨#[]⟩]) (by simp [results, Tryd.results23, go_sem, a0, a1, a2, a3, a4]) rfl ⟨⟨1, s, ⟨0, 0, ⟨#[]⟩⟩⟩, rfl, ⟨HS.out, emp_small⟩, c3.keep gr (by simp; omega) (by intro k hk; cases hk; omega), grown_more G3 gr (by intro k hk; cases hk; omega)⟩
end Go.Proofs.YtlaoiagpoomldaaDoor
/-
  The contracts of the laws' own helpers on Conds: to copies, sz counts off, eq finds one the same as itself.
-/
namespace Go.Proofs.YtlaoiagpoomldaaDoor
open Go.RowKit
set_option linter.unusedVariables false

theorem boxes3 (w : World) (c1 c2 c3 : Array Value) (T1 T2 T3 : TypeId) : (((w.alloc (.cells c1 T1)).alloc (.cells c2 T2)).alloc (.cells c3 T3)).heap[w.heap.size]? = some (.cells c1 T1 (0, 0)) ∧ (((w.alloc (.cells c1 T1)).alloc (.cells c2 T2)).alloc (.cells c3 T3)).heap[w.heap.size + 1]? = some (.cells c2 T2 (0, 0)) ∧ (((w.alloc (.cells c1 T1)).alloc (.cells c2 T2)).alloc (.cells c3 T3)).heap[w.heap.size + 1 + 1]? = some (.cells c3 T3 (0, 0)) ∧ Below w.heap.size w (((w.alloc (.cells c1 T1)).alloc (.cells c2 T2)).alloc (.cells c3 T3)) := by
  have b0 := below_al w (.cells c1 T1)
  have b1 := b0.alloc b0.size (.cells c2 T2)
  have b2 := b1.alloc b1.size (.cells c3 T3)
  have hA := box_old (box_old (boxk_new w c1 T1) (by simp) (.cells c2 T2)) (by simp; omega) (.cells c3 T3)
  have hR := box_old (boxk_new (w.alloc (.cells c1 T1)) c2 T2) (by simp) (.cells c3 T3)
  have hX := boxk_new ((w.alloc (.cells c1 T1)).alloc (.cells c2 T2)) c3 T3
  simp only [World.size_alloc] at hR hX
  exact ⟨hA, hR, hX, b2⟩
theorem boxes2 (w : World) (c1 c2 : Array Value) (T1 T2 : TypeId) : ((w.alloc (.cells c1 T1)).alloc (.cells c2 T2)).heap[w.heap.size]? = some (.cells c1 T1 (0, 0)) ∧ ((w.alloc (.cells c1 T1)).alloc (.cells c2 T2)).heap[w.heap.size + 1]? = some (.cells c2 T2 (0, 0)) ∧ Below w.heap.size w ((w.alloc (.cells c1 T1)).alloc (.cells c2 T2)) := by
  have b0 := below_al w (.cells c1 T1)
  have b1 := b0.alloc b0.size (.cells c2 T2)
  have hA := box_old (boxk_new w c1 T1) (by simp) (.cells c2 T2)
  have hX := boxk_new (w.alloc (.cells c1 T1)) c2 T2
  simp only [World.size_alloc] at hX
  exact ⟨hA, hX, b1⟩
theorem box11_set {w : World} {q : Nat} {c0 c1 c2 c3 c4 c5 c6 c7 c8 c9 c10 : Value} {T : TypeId} (h : w.heap[q]? = some (.cells #[c0, c1, c2, c3, c4, c5, c6, c7, c8, c9, c10] T (0, 0))) (v0 v1 v2 v3 v4 v5 v6 v7 v8 v9 v10 : Value) :
    (((((((((((w.setCell ⟨q, 0, none⟩ v0).setCell ⟨q, 1, none⟩ v1).setCell ⟨q, 2, none⟩ v2).setCell ⟨q, 3, none⟩ v3).setCell ⟨q, 4, none⟩ v4).setCell ⟨q, 5, none⟩ v5).setCell ⟨q, 6, none⟩ v6).setCell ⟨q, 7, none⟩ v7).setCell ⟨q, 8, none⟩ v8).setCell ⟨q, 9, none⟩ v9).setCell ⟨q, 10, none⟩ v10).heap[q]? = some (.cells #[v0, v1, v2, v3, v4, v5, v6, v7, v8, v9, v10] T (0, 0)) ∧ w.grownBy (((((((((((w.setCell ⟨q, 0, none⟩ v0).setCell ⟨q, 1, none⟩ v1).setCell ⟨q, 2, none⟩ v2).setCell ⟨q, 3, none⟩ v3).setCell ⟨q, 4, none⟩ v4).setCell ⟨q, 5, none⟩ v5).setCell ⟨q, 6, none⟩ v6).setCell ⟨q, 7, none⟩ v7).setCell ⟨q, 8, none⟩ v8).setCell ⟨q, 9, none⟩ v9).setCell ⟨q, 10, none⟩ v10) (some q) := by
  have g0 := (boxk_set h 0 v0).2
  have h0 : (w.setCell ⟨q, 0, none⟩ v0).heap[q]? = some (.cells #[v0, c1, c2, c3, c4, c5, c6, c7, c8, c9, c10] T (0, 0)) := (boxk_set h 0 v0).1
  have g1 := (boxk_set h0 1 v1).2
  have h1 : ((w.setCell ⟨q, 0, none⟩ v0).setCell ⟨q, 1, none⟩ v1).heap[q]? = some (.cells #[v0, v1, c2, c3, c4, c5, c6, c7, c8, c9, c10] T (0, 0)) := (boxk_set h0 1 v1).1
  have g2 := (boxk_set h1 2 v2).2
  have h2 : (((w.setCell ⟨q, 0, none⟩ v0).setCell ⟨q, 1, none⟩ v1).setCell ⟨q, 2, none⟩ v2).heap[q]? = some (.cells #[v0, v1, v2, c3, c4, c5, c6, c7, c8, c9, c10] T (0, 0)) := (boxk_set h1 2 v2).1
  have g3 := (boxk_set h2 3 v3).2
  have h3 : ((((w.setCell ⟨q, 0, none⟩ v0).setCell ⟨q, 1, none⟩ v1).setCell ⟨q, 2, none⟩ v2).setCell ⟨q, 3, none⟩ v3).heap[q]? = some (.cells #[v0, v1, v2, v3, c4, c5, c6, c7, c8, c9, c10] T (0, 0)) := (boxk_set h2 3 v3).1
  have g4 := (boxk_set h3 4 v4).2
  have h4 : (((((w.setCell ⟨q, 0, none⟩ v0).setCell ⟨q, 1, none⟩ v1).setCell ⟨q, 2, none⟩ v2).setCell ⟨q, 3, none⟩ v3).setCell ⟨q, 4, none⟩ v4).heap[q]? = some (.cells #[v0, v1, v2, v3, v4, c5, c6, c7, c8, c9, c10] T (0, 0)) := (boxk_set h3 4 v4).1
  have g5 := (boxk_set h4 5 v5).2
  have h5 : ((((((w.setCell ⟨q, 0, none⟩ v0).setCell ⟨q, 1, none⟩ v1).setCell ⟨q, 2, none⟩ v2).setCell ⟨q, 3, none⟩ v3).setCell ⟨q, 4, none⟩ v4).setCell ⟨q, 5, none⟩ v5).heap[q]? = some (.cells #[v0, v1, v2, v3, v4, v5, c6, c7, c8, c9, c10] T (0, 0)) := (boxk_set h4 5 v5).1
  have g6 := (boxk_set h5 6 v6).2
  have h6 : (((((((w.setCell ⟨q, 0, none⟩ v0).setCell ⟨q, 1, none⟩ v1).setCell ⟨q, 2, none⟩ v2).setCell ⟨q, 3, none⟩ v3).setCell ⟨q, 4, none⟩ v4).setCell ⟨q, 5, none⟩ v5).setCell ⟨q, 6, none⟩ v6).heap[q]? = some (.cells #[v0, v1, v2, v3, v4, v5, v6, c7, c8, c9, c10] T (0, 0)) := (boxk_set h5 6 v6).1
  have g7 := (boxk_set h6 7 v7).2
  have h7 : ((((((((w.setCell ⟨q, 0, none⟩ v0).setCell ⟨q, 1, none⟩ v1).setCell ⟨q, 2, none⟩ v2).setCell ⟨q, 3, none⟩ v3).setCell ⟨q, 4, none⟩ v4).setCell ⟨q, 5, none⟩ v5).setCell ⟨q, 6, none⟩ v6).setCell ⟨q, 7, none⟩ v7).heap[q]? = some (.cells #[v0, v1, v2, v3, v4, v5, v6, v7, c8, c9, c10] T (0, 0)) := (boxk_set h6 7 v7).1
  have g8 := (boxk_set h7 8 v8).2
  have h8 : (((((((((w.setCell ⟨q, 0, none⟩ v0).setCell ⟨q, 1, none⟩ v1).setCell ⟨q, 2, none⟩ v2).setCell ⟨q, 3, none⟩ v3).setCell ⟨q, 4, none⟩ v4).setCell ⟨q, 5, none⟩ v5).setCell ⟨q, 6, none⟩ v6).setCell ⟨q, 7, none⟩ v7).setCell ⟨q, 8, none⟩ v8).heap[q]? = some (.cells #[v0, v1, v2, v3, v4, v5, v6, v7, v8, c9, c10] T (0, 0)) := (boxk_set h7 8 v8).1
  have g9 := (boxk_set h8 9 v9).2
  have h9 : ((((((((((w.setCell ⟨q, 0, none⟩ v0).setCell ⟨q, 1, none⟩ v1).setCell ⟨q, 2, none⟩ v2).setCell ⟨q, 3, none⟩ v3).setCell ⟨q, 4, none⟩ v4).setCell ⟨q, 5, none⟩ v5).setCell ⟨q, 6, none⟩ v6).setCell ⟨q, 7, none⟩ v7).setCell ⟨q, 8, none⟩ v8).setCell ⟨q, 9, none⟩ v9).heap[q]? = some (.cells #[v0, v1, v2, v3, v4, v5, v6, v7, v8, v9, c10] T (0, 0)) := (boxk_set h8 9 v9).1
  have g10 := (boxk_set h9 10 v10).2
  have h10 : (((((((((((w.setCell ⟨q, 0, none⟩ v0).setCell ⟨q, 1, none⟩ v1).setCell ⟨q, 2, none⟩ v2).setCell ⟨q, 3, none⟩ v3).setCell ⟨q, 4, none⟩ v4).setCell ⟨q, 5, none⟩ v5).setCell ⟨q, 6, none⟩ v6).setCell ⟨q, 7, none⟩ v7).setCell ⟨q, 8, none⟩ v8).setCell ⟨q, 9, none⟩ v9).setCell ⟨q, 10, none⟩ v10).heap[q]? = some (.cells #[v0, v1, v2, v3, v4, v5, v6, v7, v8, v9, v10] T (0, 0)) := (boxk_set h9 10 v10).1
  exact ⟨h10, (grown_tt (grown_tt (grown_tt (grown_tt (grown_tt (grown_tt (grown_tt (grown_tt (grown_tt (grown_tt g0 g1) g2) g3) g4) g5) g6) g7) g8) g9) g10)⟩
theorem box11_setL {w : World} {q : Nat} {c0 c1 c2 c3 c4 c5 c6 c7 c8 c9 c10 : Value} {T : TypeId} (h : w.heap[q]? = some (.cells #[c0, c1, c2, c3, c4, c5, c6, c7, c8, c9, c10] T (0, 0))) (v1 v2 v3 v4 v5 : Value) :
    (((((w.setCell ⟨q, 1, none⟩ v1).setCell ⟨q, 2, none⟩ v2).setCell ⟨q, 3, none⟩ v3).setCell ⟨q, 4, none⟩ v4).setCell ⟨q, 5, none⟩ v5).heap[q]? = some (.cells #[c0, v1, v2, v3, v4, v5, c6, c7, c8, c9, c10] T (0, 0)) ∧ w.grownBy (((((w.setCell ⟨q, 1, none⟩ v1).setCell ⟨q, 2, none⟩ v2).setCell ⟨q, 3, none⟩ v3).setCell ⟨q, 4, none⟩ v4).setCell ⟨q, 5, none⟩ v5) (some q) := by
  have g1 := (boxk_set h 1 v1).2
  have h1 : (w.setCell ⟨q, 1, none⟩ v1).heap[q]? = some (.cells #[c0, v1, c2, c3, c4, c5, c6, c7, c8, c9, c10] T (0, 0)) := (boxk_set h 1 v1).1
  have g2 := (boxk_set h1 2 v2).2
  have h2 : ((w.setCell ⟨q, 1, none⟩ v1).setCell ⟨q, 2, none⟩ v2).heap[q]? = some (.cells #[c0, v1, v2, c3, c4, c5, c6, c7, c8, c9, c10] T (0, 0)) := (boxk_set h1 2 v2).1
  have g3 := (boxk_set h2 3 v3).2
  have h3 : (((w.setCell ⟨q, 1, none⟩ v1).setCell ⟨q, 2, none⟩ v2).setCell ⟨q, 3, none⟩ v3).heap[q]? = some (.cells #[c0, v1, v2, v3, c4, c5, c6, c7, c8, c9, c10] T (0, 0)) := (boxk_set h2 3 v3).1
  have g4 := (boxk_set h3 4 v4).2
  have h4 : ((((w.setCell ⟨q, 1, none⟩ v1).setCell ⟨q, 2, none⟩ v2).setCell ⟨q, 3, none⟩ v3).setCell ⟨q, 4, none⟩ v4).heap[q]? = some (.cells #[c0, v1, v2, v3, v4, c5, c6, c7, c8, c9, c10] T (0, 0)) := (boxk_set h3 4 v4).1
  have g5 := (boxk_set h4 5 v5).2
  have h5 : (((((w.setCell ⟨q, 1, none⟩ v1).setCell ⟨q, 2, none⟩ v2).setCell ⟨q, 3, none⟩ v3).setCell ⟨q, 4, none⟩ v4).setCell ⟨q, 5, none⟩ v5).heap[q]? = some (.cells #[c0, v1, v2, v3, v4, v5, c6, c7, c8, c9, c10] T (0, 0)) := (boxk_set h4 5 v5).1
  exact ⟨h5, (grown_tt (grown_tt (grown_tt (grown_tt g1 g2) g3) g4) g5)⟩
theorem box11_setR {w : World} {q : Nat} {c0 c1 c2 c3 c4 c5 c6 c7 c8 c9 c10 : Value} {T : TypeId} (h : w.heap[q]? = some (.cells #[c0, c1, c2, c3, c4, c5, c6, c7, c8, c9, c10] T (0, 0))) (v6 v7 v8 v9 v10 : Value) :
    (((((w.setCell ⟨q, 6, none⟩ v6).setCell ⟨q, 7, none⟩ v7).setCell ⟨q, 8, none⟩ v8).setCell ⟨q, 9, none⟩ v9).setCell ⟨q, 10, none⟩ v10).heap[q]? = some (.cells #[c0, c1, c2, c3, c4, c5, v6, v7, v8, v9, v10] T (0, 0)) ∧ w.grownBy (((((w.setCell ⟨q, 6, none⟩ v6).setCell ⟨q, 7, none⟩ v7).setCell ⟨q, 8, none⟩ v8).setCell ⟨q, 9, none⟩ v9).setCell ⟨q, 10, none⟩ v10) (some q) := by
  have g6 := (boxk_set h 6 v6).2
  have h6 : (w.setCell ⟨q, 6, none⟩ v6).heap[q]? = some (.cells #[c0, c1, c2, c3, c4, c5, v6, c7, c8, c9, c10] T (0, 0)) := (boxk_set h 6 v6).1
  have g7 := (boxk_set h6 7 v7).2
  have h7 : ((w.setCell ⟨q, 6, none⟩ v6).setCell ⟨q, 7, none⟩ v7).heap[q]? = some (.cells #[c0, c1, c2, c3, c4, c5, v6, v7, c8, c9, c10] T (0, 0)) := (boxk_set h6 7 v7).1
  have g8 := (boxk_set h7 8 v8).2
  have h8 : (((w.setCell ⟨q, 6, none⟩ v6).setCell ⟨q, 7, none⟩ v7).setCell ⟨q, 8, none⟩ v8).heap[q]? = some (.cells #[c0, c1, c2, c3, c4, c5, v6, v7, v8, c9, c10] T (0, 0)) := (boxk_set h7 8 v8).1
  have g9 := (boxk_set h8 9 v9).2
  have h9 : ((((w.setCell ⟨q, 6, none⟩ v6).setCell ⟨q, 7, none⟩ v7).setCell ⟨q, 8, none⟩ v8).setCell ⟨q, 9, none⟩ v9).heap[q]? = some (.cells #[c0, c1, c2, c3, c4, c5, v6, v7, v8, v9, c10] T (0, 0)) := (boxk_set h8 9 v9).1
  have g10 := (boxk_set h9 10 v10).2
  have h10 : (((((w.setCell ⟨q, 6, none⟩ v6).setCell ⟨q, 7, none⟩ v7).setCell ⟨q, 8, none⟩ v8).setCell ⟨q, 9, none⟩ v9).setCell ⟨q, 10, none⟩ v10).heap[q]? = some (.cells #[c0, c1, c2, c3, c4, c5, v6, v7, v8, v9, v10] T (0, 0)) := (boxk_set h9 10 v10).1
  exact ⟨h10, (grown_tt (grown_tt (grown_tt (grown_tt g6 g7) g8) g9) g10)⟩
theorem box11_post {P : Program} {f : Func} {Q : Ending → World → Prop} {x : Exit} {act : Act} {w : World} {q : Nat} {c0 c1 c2 c3 c4 c5 c6 c7 c8 c9 c10 v0 v1 v2 v3 v4 v5 v6 v7 v8 v9 v10 : Value} {T : TypeId} (h : w.heap[q]? = some (.cells #[c0, c1, c2, c3, c4, c5, c6, c7, c8, c9, c10] T (0, 0)))
    (k : ∀ w2, w2.heap[q]? = some (.cells #[v0, v1, v2, v3, v4, v5, v6, v7, v8, v9, v10] T (0, 0)) → w.grownBy w2 (some q) → bodyPost P f Q x act w2) : bodyPost P f Q x act (((((((((((w.setCell ⟨q, 0, none⟩ v0).setCell ⟨q, 1, none⟩ v1).setCell ⟨q, 2, none⟩ v2).setCell ⟨q, 3, none⟩ v3).setCell ⟨q, 4, none⟩ v4).setCell ⟨q, 5, none⟩ v5).setCell ⟨q, 6, none⟩ v6).setCell ⟨q, 7, none⟩ v7).setCell ⟨q, 8, none⟩ v8).setCell ⟨q, 9, none⟩ v9).setCell ⟨q, 10, none⟩ v10) :=
  k _ (box11_set h v0 v1 v2 v3 v4 v5 v6 v7 v8 v9 v10).1 (box11_set h v0 v1 v2 v3 v4 v5 v6 v7 v8 v9 v10).2
theorem Tryd.info34 : (Tryd.prog.info? 34).map (fun i => (i.zero, i.size, i.bytes)) = some (some (.agg #[.int .i64 0, .int .i64 0, .string ⟨#[]⟩, .int .i64 0, .int .i64 0, .string ⟨#[]⟩, .int .i64 0, .string ⟨#[]⟩, .int .i64 0, .int .i64 0, .string ⟨#[]⟩]), 11, 120) := by kernel_rfl

end Go.Proofs.YtlaoiagpoomldaaDoor
/-
  The contracts of the draws of conditions: some, whatever they are, with short texts.
-/
namespace Go.Proofs.YtlaoiagpoomldaaDoor
open Go.RowKit
set_option linter.unusedVariables false

/-- some condition was drawn -/
def DrawnC (w : World) (B q : Nat) (e : Ending) (w' : World) : Prop := ∃ x : C11, e = .returned (.agg #[.int .i64 x.Op, .int .i64 x.L.K, .string x.L.S, .int .i64 x.L.V.K, .int .i64 x.L.V.N, .string x.L.V.S, .int .i64 x.R.K, .string x.R.S, .int .i64 x.R.V.K, .int .i64 x.R.V.N, .string x.R.V.S]) ∧ x.small ∧ Cur B w' q ∧ w.grownBy w' (some q)

set_option maxRecDepth 100000 in
set_option maxHeartbeats 1600000 in
theorem l7Arg_any (B q : Nat) (w : World) (hc : Cur B w q) :
    Calls Tryd.prog 35 #[.pointer (some ⟨q, 0, none⟩)] w (DrawnA w B q) := by
  have hq := hc.lt
  have hB := hc.1
  go_enter Tryd.func35, Tryd.ntmps35
  go_wp2_with fail
  have c0 : Cur B (w.alloc (.cells #[.int .i64 0, .string ⟨#[]⟩, .int .i64 0, .int .i64 0, .string ⟨#[]⟩] 32)) q := hc.keep (World.grownBy_alloc w _ none) (by simp) (by simp)
  have hR := boxk_new w #[.int .i64 0, .string ⟨#[]⟩, .int .i64 0, .int .i64 0, .string ⟨#[]⟩] 32
  have G0 := grown_alloc w (.cells #[.int .i64 0, .string ⟨#[]⟩, .int .i64 0, .int .i64 0, .string ⟨#[]⟩] 32) q
  refine (l1Once_any B q 3 _ c0 (by omega) (by omega)).mono ?_
  rintro e w1 ⟨bb, rfl, c1, g1⟩
  have HR := hide (box_grown hR g1 (by omega))
  have G1 : w.grownBy w1 (some q) := grown_trans G0 g1
  have z1 := G1.size
  have l1 := (Array.getElem?_eq_some_iff.1 HR.out).1
  clear g1 hR G0 c0
  cases bb
  · go_wp2_with fail
    refine (l1Str_any B q w1.heap.size [⟨#[88]⟩, ⟨#[89]⟩] 2 _ (c1.keep (World.grownBy_alloc w1 _ none) (by simp) (by simp)) (by decide) (by decide) (by omega) (cells_strs w1 9 _)).mono ?_
    rintro e w2 ⟨s, rfl, hx, c2, g2⟩
    have HS : Hid (s.size ≤ 1048576) := by
      unfold Hid
      simp only [List.mem_cons, List.not_mem_nil, or_false] at hx
      rcases hx with rfl | rfl <;> decide
    have HR2 := hide (box_grown (box_alloc HR.out _) g2 (by omega))
    have G2 : w.grownBy w2 (some q) := grown_trans (grown_trans G1 (grown_alloc w1 _ q)) g2
    clear hx g2 HR c1 G1
    go_wp2_with fail
    refine (l6Var_any s _).mono ?_
    rintro e w3 ⟨rfl, hb3⟩
    have HR3 := hide (box_step HR2.out hb3)
    have G3 : w.grownBy w3 (some q) := grown_trans G2 (below_grown hb3)
    have c3 : Cur B w3 q := c2.keep (⟨hb3.os, hb3.tape, hb3.output, hb3.size, fun i hi _ => hb3.block i hi⟩ : w2.grownBy w3 none) (by simp) (by simp)
    clear hb3 HR2 c2 G2
    have r0 := boxk_cell HR3.out 0 _ rfl
    have f0 := boxk_frozen HR3.out 0
    have r1 := boxk_cell HR3.out 1 _ rfl
    have f1 := boxk_frozen HR3.out 1
    have r2 := boxk_cell HR3.out 2 _ rfl
    have f2 := boxk_frozen HR3.out 2
    have r3 := boxk_cell HR3.out 3 _ rfl
    have f3 := boxk_frozen HR3.out 3
    have r4 := boxk_cell HR3.out 4 _ rfl
    have f4 := boxk_frozen HR3.out 4
    go_wp2
    refine box5_post HR3.out (fun w4 h4 gr => ?_)
    clear r0 f0 r1 f1 r2 f2 r3 f3 r4 f4
    have a0 := boxk_cell h4 0 _ rfl
    have a1 := boxk_cell h4 1 _ rfl
    have a2 := boxk_cell h4 2 _ rfl
    have a3 := boxk_cell h4 3 _ rfl
    have a4 := boxk_cell h4 4 _ rfl
    refine bodyPost_ret (v := .agg #[.int .i64 1, .string s, .int .i64 0, .int .i64 0, .string ⟨#[]⟩]) (by simp [results, Tryd.results35, go_sem, a0, a1, a2, a3, a4]) rfl ⟨⟨1, s, ⟨0, 0, ⟨#[]⟩⟩⟩, rfl, ⟨HS.out, emp_small⟩, c3.keep gr (by simp; omega) (by intro k hk; cases hk; omega), grown_more G3 gr (by intro k hk; cases hk; omega)⟩
  · go_wp2_with fail
    refine (l3Small_any B q _ c1).mono ?_
    rintro e w2 ⟨v, rfl, hv, c2, g2⟩
    have HR2 := hide (box_grown HR.out g2 (by omega))
    have G2 : w.grownBy w2 (some q) := grown_trans G1 g2
    clear g2 HR c1 G1
    go_wp2_with fail
    refine (l6Val_any v _).mono ?_
    rintro e w3 ⟨rfl, hb3⟩
    have HR3 := hide (box_step HR2.out hb3)
    have G3 : w.grownBy w3 (some q) := grown_trans G2 (below_grown hb3)
    have c3 : Cur B w3 q := c2.keep (⟨hb3.os, hb3.tape, hb3.output, hb3.size, fun i hi _ => hb3.block i hi⟩ : w2.grownBy w3 none) (by simp) (by simp)
    clear hb3 HR2 c2 G2
    have r0 := boxk_cell HR3.out 0 _ rfl
    have f0 := boxk_frozen HR3.out 0
    have r1 := boxk_cell HR3.out 1 _ rfl
    have f1 := boxk_frozen HR3.out 1
    have r2 := boxk_cell HR3.out 2 _ rfl
    have f2 := boxk_frozen HR3.out 2
    have r3 := boxk_cell HR3.out 3 _ rfl
    have f3 := boxk_frozen HR3.out 3
    have r4 := boxk_cell HR3.out 4 _ rfl
    have f4 := boxk_frozen HR3.out 4
    go_wp2
    refine box5_post HR3.out (fun w4 h4 gr => ?_)
    clear r0 f0 r1 f1 r2 f2 r3 f3 r4 f4
    have a0 := boxk_cell h4 0 _ rfl
    have a1 := boxk_cell h4 1 _ rfl
    have a2 := boxk_cell h4 2 _ rfl
    have a3 := boxk_cell h4 3 _ rfl
    have a4 := boxk_cell h4 4 _ rfl
    refine bodyPost_ret (v := .agg #[.int .i64 2, .string ⟨#[]⟩, .int .i64 v.K, .int .i64 v.N, .string v.S]) (by simp [results, Tryd.results35, go_sem, a0, a1, a2, a3, a4]) rfl ⟨⟨2, ⟨#[]⟩, v⟩, rfl, ⟨emp_small, by show v.S.size ≤ 1048576; omega⟩, c3.keep gr (by simp; omega) (by intro k hk; cases hk; omega), grown_more G3 gr (by intro k hk; cases hk; omega)⟩

set_option maxRecDepth 100000 in
set_option maxHeartbeats 1600000 in
theorem l7Draw_any (B q : Nat) (w : World) (hc : Cur B w q) :
    Calls Tryd.prog 22 #[.pointer (some ⟨q, 0, none⟩)] w (DrawnC w B q) := by
  have hq := hc.lt
  have hB := hc.1
  go_enter Tryd.func22, Tryd.ntmps22
  go_wp2_with fail
  have c0 : Cur B (w.alloc (.cells #[.int .i64 0, .int .i64 0, .string ⟨#[]⟩, .int .i64 0, .int .i64 0, .string ⟨#[]⟩, .int .i64 0, .string ⟨#[]⟩, .int .i64 0, .int .i64 0, .string ⟨#[]⟩] 34)) q := hc.keep (World.grownBy_alloc w _ none) (by simp) (by simp)
  have hR := boxk_new w #[.int .i64 0, .int .i64 0, .string ⟨#[]⟩, .int .i64 0, .int .i64 0, .string ⟨#[]⟩, .int .i64 0, .string ⟨#[]⟩, .int .i64 0, .int .i64 0, .string ⟨#[]⟩] 34
  have G0 := grown_alloc w (.cells #[.int .i64 0, .int .i64 0, .string ⟨#[]⟩, .int .i64 0, .int .i64 0, .string ⟨#[]⟩, .int .i64 0, .string ⟨#[]⟩, .int .i64 0, .int .i64 0, .string ⟨#[]⟩] 34) q
  refine (l1Below_any B q 3 _ c0 (by omega) (by omega)).mono ?_
  rintro e w1 ⟨n, rfl, n0, n1, c1, g1⟩
  have HR := hide (box_grown hR g1 (by omega))
  have G1 : w.grownBy w1 (some q) := grown_trans G0 g1
  clear g1 hR G0 c0
  go_wp2_with fail
  refine (l7Arg_any B q _ c1).mono ?_
  rintro e w2 ⟨x, rfl, hx, c2, g2⟩
  have HR2 := hide (box_grown HR.out g2 (by omega))
  have G2 : w.grownBy w2 (some q) := grown_trans G1 g2
  clear g2 HR c1 G1
  go_wp2_with fail
  refine (l7Arg_any B q _ c2).mono ?_
  rintro e w3 ⟨y, rfl, hy, c3, g3⟩
  have HR3 := hide (box_grown HR2.out g3 (by omega))
  have G3 : w.grownBy w3 (some q) := grown_trans G2 g3
  have l3 := (Array.getElem?_eq_some_iff.1 HR3.out).1
  clear g3 HR2 c2 G2
  have r0 := boxk_cell HR3.out 0 _ rfl
  have f0 := boxk_frozen HR3.out 0
  have r1 := boxk_cell HR3.out 1 _ rfl
  have f1 := boxk_frozen HR3.out 1
  have r2 := boxk_cell HR3.out 2 _ rfl
  have f2 := boxk_frozen HR3.out 2
  have r3 := boxk_cell HR3.out 3 _ rfl
  have f3 := boxk_frozen HR3.out 3
  have r4 := boxk_cell HR3.out 4 _ rfl
  have f4 := boxk_frozen HR3.out 4
  have r5 := boxk_cell HR3.out 5 _ rfl
  have f5 := boxk_frozen HR3.out 5
  have r6 := boxk_cell HR3.out 6 _ rfl
  have f6 := boxk_frozen HR3.out 6
  have r7 := boxk_cell HR3.out 7 _ rfl
  have f7 := boxk_frozen HR3.out 7
  have r8 := boxk_cell HR3.out 8 _ rfl
  have f8 := boxk_frozen HR3.out 8
  have r9 := boxk_cell HR3.out 9 _ rfl
  have f9 := boxk_frozen HR3.out 9
  have r10 := boxk_cell HR3.out 10 _ rfl
  have f10 := boxk_frozen HR3.out 10
  go_wp2
  refine box11_post HR3.out (fun w4 h4 gr => ?_)
  clear r0 f0 r1 f1 r2 f2 r3 f3 r4 f4 r5 f5 r6 f6 r7 f7 r8 f8 r9 f9 r10 f10
  have a0 := boxk_cell h4 0 _ rfl
  have a1 := boxk_cell h4 1 _ rfl
  have a2 := boxk_cell h4 2 _ rfl
  have a3 := boxk_cell h4 3 _ rfl
  have a4 := boxk_cell h4 4 _ rfl
  have a5 := boxk_cell h4 5 _ rfl
  have a6 := boxk_cell h4 6 _ rfl
  have a7 := boxk_cell h4 7 _ rfl
  have a8 := boxk_cell h4 8 _ rfl
  have a9 := boxk_cell h4 9 _ rfl
  have a10 := boxk_cell h4 10 _ rfl
  refine bodyPost_ret (v := .agg #[.int .i64 (1 + n), .int .i64 x.K, .string x.S, .int .i64 x.V.K, .int .i64 x.V.N, .string x.V.S, .int .i64 y.K, .string y.S, .int .i64 y.V.K, .int .i64 y.V.N, .string y.V.S]) (by simp [results, Tryd.results22, go_sem, a0, a1, a2, a3, a4, a5, a6, a7, a8, a9, a10]) rfl ⟨⟨1 + n, x, y⟩, rfl, ⟨hx, hy⟩, c3.keep gr (by simp; omega) (by intro k hk; cases hk; omega), grown_more G3 gr (by intro k hk; cases hk; omega)⟩
end Go.Proofs.YtlaoiagpoomldaaDoor
/-
  The contracts of the laws' own helpers on Binds: to copies, sz counts off, eq finds one the same as itself; so of rows of them.
-/
namespace Go.Proofs.YtlaoiagpoomldaaDoor
open Go.RowKit
set_option linter.unusedVariables false

theorem Tryd.info62 : (Tryd.prog.info? 62).map (fun i => (i.zero, i.size, i.bytes)) = some (some (.agg #[.string ⟨#[]⟩, .int .i64 0, .int .i64 0, .string ⟨#[]⟩]), 4, 48) := by kernel_rfl

theorem keepBind {w0 W w' : World} {B : Nat} {p0 p1 p2 p3 p4 p5 p6 p7 : Addr} {v0 v1 v2 v3 v4 v5 v6 v7 : Value} (hb : Below W.heap.size W w')
    (h : W.cell? p0 = some v0 ∧ W.cell? p1 = some v1 ∧ W.cell? p2 = some v2 ∧ W.cell? p3 = some v3 ∧ W.cell? p4 = some v4 ∧ W.cell? p5 = some v5 ∧ W.cell? p6 = some v6 ∧ W.cell? p7 = some v7 ∧ Below B w0 W ∧ B ≤ W.heap.size) :
    w'.cell? p0 = some v0 ∧ w'.cell? p1 = some v1 ∧ w'.cell? p2 = some v2 ∧ w'.cell? p3 = some v3 ∧ w'.cell? p4 = some v4 ∧ w'.cell? p5 = some v5 ∧ w'.cell? p6 = some v6 ∧ w'.cell? p7 = some v7 ∧ Below B w0 w' ∧ B ≤ w'.heap.size := by
  obtain ⟨q0, q1, q2, q3, q4, q5, q6, q7, h6, h7⟩ := h
  have k : ∀ {a : Addr} {v : Value}, W.cell? a = some v → w'.cell? a = some v := fun {a v} h => by rw [hb.cell (World.block_lt_of_cell? W _ h)]; exact h
  exact ⟨k q0, k q1, k q2, k q3, k q4, k q5, k q6, k q7, h6.trans (hb.mono h7), Nat.le_trans h7 hb.size⟩
end Go.Proofs.YtlaoiagpoomldaaDoor
/-
  A bind that was just laid, cell by cell.
-/
namespace Go.Proofs.YtlaoiagpoomldaaDoor
open Go.RowKit
set_option linter.unusedVariables false

theorem src4 (W : World) (x : B4) : ∀ j u, (x.cs)[j]? = some u → (W.alloc (.cells #[.string x.N, .int .i64 x.V.K, .int .i64 x.V.N, .string x.V.S] 62)).cell? ((⟨W.heap.size, 0, none⟩ : Addr).add j) = some u := by
  intro j u hj
  rw [Addr.add_lit, Nat.zero_add]
  have hb : (W.alloc (.cells #[.string x.N, .int .i64 x.V.K, .int .i64 x.V.N, .string x.V.S] 62)).heap[W.heap.size]? = some (.cells #[.string x.N, .int .i64 x.V.K, .int .i64 x.V.N, .string x.V.S] 62 (0, 0)) := by rw [heap_alloc_new]
  rw [cell_of_row _ _ j _ _ (0, 0) hb, ← hj]
  simp [B4.cs]
theorem one4 (x : B4) : ∀ u ∈ x.cs, u.oneCell' = true := by
  intro u hu
  simp only [B4.cs, List.mem_cons, List.not_mem_nil, or_false] at hu
  rcases hu with rfl | rfl | rfl | rfl <;> rfl
end Go.Proofs.YtlaoiagpoomldaaDoor
/-
  The contract of the draw of binds: some, whatever they are, with short texts.
-/
namespace Go.Proofs.YtlaoiagpoomldaaDoor
open Go.RowKit
set_option linter.unusedVariables false

/-- some binds were drawn -/
def DrawnB (w : World) (B q : Nat) (e : Ending) (w' : World) : Prop := ∃ (g c : Nat) (L : List B4), e = .returned (.slice (some ⟨g, 0, none⟩) L.length c) ∧ L.length ≤ 3 ∧ (∀ x ∈ L, x.small) ∧ w'.ownsRow w.heap.size 62 4 (.slice (some ⟨g, 0, none⟩) L.length c) L.length (rowOf B4.cs L) ∧ Cur B w' q ∧ w.grownBy w' (some q)

set_option maxRecDepth 100000 in
set_option maxHeartbeats 3200000 in
theorem l6Binds_any (B q : Nat) (w : World) (hc : Cur B w q) :
    Calls Tryd.prog 14 #[.pointer (some ⟨q, 0, none⟩)] w (DrawnB w B q) := by
  obtain ⟨i0, hi, hz0, hz1, hz2⟩ := info_parts Tryd.info62
  have hq := hc.lt
  have hB := hc.1
  go_enter Tryd.func14, Tryd.ntmps14
  go_wp2_with fail
  have c0 : Cur B (w.alloc (.cells #[] 62)) q := hc.keep (World.grownBy_alloc w _ none) (by simp) (by simp)
  have ho0 := World.ownsRow_lit (base := w.heap.size) (e := 62) (size := 4) w #[] 0 (Nat.le_refl _) (Nat.zero_le _) rfl
  have G0 := grown_alloc w (.cells #[] 62) q
  have hs0 : w.heap.size < (w.alloc (.cells #[] 62)).heap.size := by simp
  refine (l1Below_any B q 3 _ c0 (by omega) (by omega)).mono ?_
  rintro e w1 ⟨x, rfl, x0, x1, c1, g1⟩
  have ho1 : w1.ownsRow w.heap.size 62 4 (.slice (some ⟨w.heap.size, 0, none⟩) 0 0) 0 [] := ho0.kept g1 (.inr (by simp [Value.ownBlock]; omega))
  have G1 : w.grownBy w1 (some q) := grown_trans G0 g1
  have hs1 := Nat.lt_of_lt_of_le hs0 g1.size
  clear g1 c0 ho0 G0 hs0
  obtain ⟨n, rfl⟩ := Int.eq_ofNat_of_zero_le x0
  have hn3 : n ≤ 3 := by omega
  go_wp2
  go_loopw [3, 4] (fun v i wr => ∃ (k g c : Nat) (L : List B4), k + L.length = n ∧ i = .int .i64 k ∧ v = .slice (some ⟨g, 0, none⟩) L.length c ∧ wr.ownsRow w.heap.size 62 4 (.slice (some ⟨g, 0, none⟩) L.length c) L.length (rowOf B4.cs L) ∧ (∀ x ∈ L, x.small) ∧ Cur B wr q ∧ w.grownBy wr (some q)) (fun _ i _ => (intOf i).toNat)
  case atStart => exact ⟨n, w.heap.size, 0, [], by simp, rfl, rfl, ho1, (fun x hx => by cases hx), c1, G1⟩
  case round =>
    obtain ⟨k, g, c, L, hkn, rfl, rfl, hown, hsm, cr, gr⟩ := hrel
    have HSm := hide hsm
    have HO := hide hown
    have HG := hide gr
    have hzr := gr.size
    have hqr := cr.lt
    clear ho1 c1 G1 hsm hown gr
    by_cases hlt : 0 < k
    · have hk1 : (0 : Int) < (k : Int) := by omega
      go_wp2_with fail
      refine (l1Str_any B q wr.heap.size [⟨#[88]⟩, ⟨#[89]⟩, ⟨#[87]⟩] 3 _ (cr.keep (World.grownBy_alloc wr _ none) (by simp) (by simp)) (by decide) (by decide) (by omega) (cells_strs wr 9 _)).mono ?_
      rintro e w2 ⟨s, rfl, hx, c2, g2⟩
      have HS : Hid (s.size ≤ 1048576) := by
        unfold Hid
        simp only [List.mem_cons, List.not_mem_nil, or_false] at hx
        rcases hx with rfl | rfl | rfl <;> decide
      have HO2 := hide ((HO.out.alloc (.cells (([⟨#[88]⟩, ⟨#[89]⟩, ⟨#[87]⟩] : List ByteArray).map Value.string).toArray 9)).kept g2 (.inr (by have := (HO.out.lt g rfl).1; simp [Value.ownBlock]; omega)))
      have HG2 := hide (grown_trans (grown_trans HG.out (grown_alloc wr _ q)) g2)
      clear hx g2 HO HG cr
      go_wp2_with fail
      refine (l3Small_any B q _ c2).mono ?_
      rintro e w3 ⟨u, rfl, hu, c3, g3⟩
      have HO3 := hide ((HO2.out.kept g3 (.inr (by have := (HO2.out.lt g rfl).1; simp [Value.ownBlock]; omega))).alloc (.cells #[.string s, .int .i64 u.K, .int .i64 u.N, .string u.S] 62))
      have HG3 := hide (grown_trans (grown_trans HG2.out g3) (grown_alloc w3 (.cells #[.string s, .int .i64 u.K, .int .i64 u.N, .string u.S] 62) q))
      have c4 : Cur B (w3.alloc (.cells #[.string s, .int .i64 u.K, .int .i64 u.N, .string u.S] 62)) q := c3.keep (World.grownBy_alloc w3 _ none) (by simp) (by simp)
      have HSrc := hide (src4 w3 ⟨s, u⟩)
      have HApp : Hid (rowOf B4.cs L ++ B4.cs ⟨s, u⟩ = rowOf B4.cs (L ++ [⟨s, u⟩])) := by unfold Hid; rw [rowOf_append]; simp [rowOf]
      have hz4 := HG3.out.size
      clear g3 HO2 HG2 c2 c3
      go_wp2_with (at_builtin; refine wpList_append_lies _ rfl (.tmp 12) (.tmp 19) 25 rfl w.heap.size 62 i0 (.agg #[.string ⟨#[]⟩, .int .i64 0, .int .i64 0, .string ⟨#[]⟩]) 4 48 Tryd.underlying25 hi hz0 hz1 hz2 rfl (by omega) (.slice (some ⟨g, 0, none⟩) L.length c) L.length (rowOf B4.cs L) rfl HO3.out ⟨w3.heap.size, 0, none⟩ 1 1 (B4.cs ⟨s, u⟩) ?hx rfl HSrc.out (one4 _) (by omega) (by unfold maxLen; omega) (by omega) hz4 _ rfl ?_)
      case hx => simp [Act.eval]
      intro g5 c5 w5 ho5 hg5 hat5 hlt5
      rw [HApp.out] at ho5
      have HO5 := hide ho5
      have hgb := (HO3.out.lt g rfl).1
      have c6 : Cur B w5 q := c4.keep hg5 (by simp [Value.ownBlock]; omega) (fun j hj => by have := (HO3.out.lt j hj).1; omega)
      have HG5 := hide (grown_more HG3.out hg5 (fun j hj => (HO3.out.lt j hj).1))
      clear ho5 hg5 hat5 hlt5 HO3 HG3 HSrc c4
      go_wp2
      go_roundw
      case rel => exact ⟨k - 1, g5, c5, L ++ [⟨s, u⟩], by simp; omega, by go_num, by simp, by rw [show (L ++ [(⟨s, u⟩ : B4)]).length = L.length + 1 by simp]; exact HO5.out, fun x hx => by
          rcases List.mem_append.1 hx with h | h
          · exact HSm.out x h
          · simp only [List.mem_cons, List.not_mem_nil, or_false] at h
            rw [h]; exact ⟨HS.out, by show u.S.size ≤ 1048576; omega⟩, c6, HG5.out⟩
      case measure => simp [intOf]; omega
    · obtain rfl : k = 0 := by omega
      have HD : Hid (DrawnB w B q (.returned (.slice (some ⟨g, 0, none⟩) L.length c)) wr) := ⟨g, c, L, rfl, by omega, HSm.out, HO.out, cr, HG.out⟩
      clear HO HG HSm cr
      go_wp2
      go_returns
      exact HD.out
end Go.Proofs.YtlaoiagpoomldaaDoor
/-
  The contracts of the draws of conditions (one bent, or not), and of what Holds is asked.
-/
namespace Go.Proofs.YtlaoiagpoomldaaDoor
open Go.RowKit
set_option linter.unusedVariables false

/-- a condition in its block X, the answer's block R, the cursor q -/
structure CdAt (w : World) (B q R X : Nat) (W : World) (y : C11) : Prop where
  cur : Cur B W q
  box : W.heap[X]? = some (.cells #[.int .i64 y.Op, .int .i64 y.L.K, .string y.L.S, .int .i64 y.L.V.K, .int .i64 y.L.V.N, .string y.L.V.S, .int .i64 y.R.K, .string y.R.S, .int .i64 y.R.V.K, .int .i64 y.R.V.N, .string y.R.V.S] 34 (0, 0))
  res : W.heap[R]? = some (.cells #[.int .i64 0, .int .i64 0, .string ⟨#[]⟩, .int .i64 0, .int .i64 0, .string ⟨#[]⟩, .int .i64 0, .string ⟨#[]⟩, .int .i64 0, .int .i64 0, .string ⟨#[]⟩] 34 (0, 0))
  gr : w.grownBy W (some q)
  small : y.small
theorem CdAt.draws {w W W' : World} {B q R X : Nat} {y : C11} (h : CdAt w B q R X W y) (hX : X ≠ q) (hR : R ≠ q) (c : Cur B W' q) (g : W.grownBy W' (some q)) : CdAt w B q R X W' y :=
  ⟨c, box_grown h.box g hX, box_grown h.res g hR, grown_trans h.gr g, h.small⟩
theorem CdAt.put {w W W' : World} {B q R X : Nat} {y z : C11} (h : CdAt w B q R X W y) (hX : X ≠ q) (hXR : X ≠ R) (hB : B ≤ X) (hw : w.heap.size ≤ X) (g : W.grownBy W' (some X)) (hb : W'.heap[X]? = some (.cells #[.int .i64 z.Op, .int .i64 z.L.K, .string z.L.S, .int .i64 z.L.V.K, .int .i64 z.L.V.N, .string z.L.V.S, .int .i64 z.R.K, .string z.R.S, .int .i64 z.R.V.K, .int .i64 z.R.V.N, .string z.R.V.S] 34 (0, 0))) (hs : z.small) : CdAt w B q R X W' z :=
  ⟨h.cur.keep g (by simp; exact hX) (by intro k hk; cases hk; exact hB), hb, box_grown h.res g (fun e => hXR e.symm), grown_more h.gr g (by intro k hk; cases hk; exact hw), hs⟩
theorem box11_set0 {w : World} {q : Nat} {c0 c1 c2 c3 c4 c5 c6 c7 c8 c9 c10 : Value} {T : TypeId} (h : w.heap[q]? = some (.cells #[c0, c1, c2, c3, c4, c5, c6, c7, c8, c9, c10] T (0, 0))) (v : Value) :
    (w.setCell ⟨q, 0, none⟩ v).heap[q]? = some (.cells #[v, c1, c2, c3, c4, c5, c6, c7, c8, c9, c10] T (0, 0)) ∧ w.grownBy (w.setCell ⟨q, 0, none⟩ v) (some q) := boxk_set h 0 v

set_option maxRecDepth 100000 in
set_option maxHeartbeats 3200000 in
theorem l7Any_any (B q : Nat) (w : World) (hc : Cur B w q) :
    Calls Tryd.prog 13 #[.pointer (some ⟨q, 0, none⟩)] w (DrawnC w B q) := by
  have hq := hc.lt
  have hB := hc.1
  go_enter Tryd.func13, Tryd.ntmps13
  go_wp2_with fail
  have c0 : Cur B (w.alloc (.cells #[.int .i64 0, .int .i64 0, .string ⟨#[]⟩, .int .i64 0, .int .i64 0, .string ⟨#[]⟩, .int .i64 0, .string ⟨#[]⟩, .int .i64 0, .int .i64 0, .string ⟨#[]⟩] 34)) q := hc.keep (World.grownBy_alloc w _ none) (by simp) (by simp)
  have hR := boxk_new w #[.int .i64 0, .int .i64 0, .string ⟨#[]⟩, .int .i64 0, .int .i64 0, .string ⟨#[]⟩, .int .i64 0, .string ⟨#[]⟩, .int .i64 0, .int .i64 0, .string ⟨#[]⟩] 34
  have G0 := grown_alloc w (.cells #[.int .i64 0, .int .i64 0, .string ⟨#[]⟩, .int .i64 0, .int .i64 0, .string ⟨#[]⟩, .int .i64 0, .string ⟨#[]⟩, .int .i64 0, .int .i64 0, .string ⟨#[]⟩] 34) q
  refine (l7Draw_any B q _ c0).mono ?_
  rintro e w1 ⟨x, rfl, hx, c1, g1⟩
  have HR := hide (box_grown hR g1 (by omega))
  have G1 : w.grownBy w1 (some q) := grown_trans G0 g1
  have z1 := G1.size
  have l1 := (Array.getElem?_eq_some_iff.1 HR.out).1
  have hqX : w1.heap.size ≠ q := by have := c1.lt; omega
  have hRX : w1.heap.size ≠ w.heap.size := by omega
  have hRq : w.heap.size ≠ q := by omega
  have hBX : B ≤ w1.heap.size := by omega
  have D0 : CdAt w B q w.heap.size w1.heap.size (w1.alloc (.cells #[.int .i64 x.Op, .int .i64 x.L.K, .string x.L.S, .int .i64 x.L.V.K, .int .i64 x.L.V.N, .string x.L.V.S, .int .i64 x.R.K, .string x.R.S, .int .i64 x.R.V.K, .int .i64 x.R.V.N, .string x.R.V.S] 34)) x :=
    ⟨c1.keep (World.grownBy_alloc w1 _ none) (by simp) (by simp), boxk_new w1 _ _, box_old HR.out l1 _, grown_trans G1 (grown_alloc w1 _ q), hx⟩
  clear g1 hR G0 c0 HR G1 c1 hc
  go_wp2_with fail
  generalize w1.alloc (.cells #[.int .i64 x.Op, .int .i64 x.L.K, .string x.L.S, .int .i64 x.L.V.K, .int .i64 x.L.V.N, .string x.L.V.S, .int .i64 x.R.K, .string x.R.S, .int .i64 x.R.V.K, .int .i64 x.R.V.N, .string x.R.V.S] 34) = w2 at D0
  refine (l1Below_any B q 8 _ D0.cur (by omega) (by omega)).mono ?_
  rintro e w3 ⟨n, rfl, n0, n1, c3, g3⟩
  have D3 := hide (D0.draws hqX hRq c3 g3)
  clear D0 c3 g3
  by_cases h0 : n = 0
  case' pos =>
    subst h0
    go_wp2_with fail
    refine (l1Below_any B q 6 _ D3.out.cur (by omega) (by omega)).mono ?_
    rintro e w4 ⟨m, rfl, m0, m1, c4, g4⟩
    have D4 := hide (D3.out.draws hqX hRq c4 g4)
    clear c4 g4 D3
    have r0 := boxk_cell D4.out.box 0 _ rfl
    have f0 := boxk_frozen D4.out.box 0
    have P := box11_set0 D4.out.box (.int .i64 m)
    have D5 := hide (D4.out.put (z := ⟨m, x.L, x.R⟩) hqX hRX hBX z1 P.2 P.1 D4.out.small)
    clear P
    go_upto_region 9 with fail
    clear r0 f0 D4
    generalize (w4.setCell ⟨w1.heap.size, 0, none⟩ (.int .i64 m)) = w5 at D5
    generalize (⟨m, x.L, x.R⟩ : C11) = y at D5
  case' neg =>
    have k0 : (n == 0) = false := by simpa using h0
    by_cases h1 : n = 1
    case' pos =>
      subst h1
      clear h0 k0
      go_wp2_with fail
      refine (l6Arg_any B q _ D3.out.cur).mono ?_
      rintro e w4 ⟨t, rfl, ht, c4, g4⟩
      have D4 := hide (D3.out.draws hqX hRq c4 g4)
      clear c4 g4 D3
      have r1 := boxk_cell D4.out.box 1 _ rfl
      have f1 := boxk_frozen D4.out.box 1
      have r2 := boxk_cell D4.out.box 2 _ rfl
      have f2 := boxk_frozen D4.out.box 2
      have r3 := boxk_cell D4.out.box 3 _ rfl
      have f3 := boxk_frozen D4.out.box 3
      have r4 := boxk_cell D4.out.box 4 _ rfl
      have f4 := boxk_frozen D4.out.box 4
      have r5 := boxk_cell D4.out.box 5 _ rfl
      have f5 := boxk_frozen D4.out.box 5
      have P := box11_setL D4.out.box (.int .i64 t.K) (.string t.S) (.int .i64 t.V.K) (.int .i64 t.V.N) (.string t.V.S)
      have D5 := hide (D4.out.put (z := ⟨x.Op, t, x.R⟩) hqX hRX hBX z1 P.2 P.1 ⟨ht, D4.out.small.2⟩)
      clear P
      go_upto_region 9 with fail
      clear r1 f1 r2 f2 r3 f3 r4 f4 r5 f5 D4
      generalize (((((w4.setCell ⟨w1.heap.size, 1, none⟩ (.int .i64 t.K)).setCell ⟨w1.heap.size, 2, none⟩ (.string t.S)).setCell ⟨w1.heap.size, 3, none⟩ (.int .i64 t.V.K)).setCell ⟨w1.heap.size, 4, none⟩ (.int .i64 t.V.N)).setCell ⟨w1.heap.size, 5, none⟩ (.string t.V.S)) = w5 at D5
      generalize (⟨x.Op, t, x.R⟩ : C11) = y at D5
    case' neg =>
      have k1 : (n == 1) = false := by simpa using h1
      by_cases h2 : n = 2
      case' pos =>
        subst h2
        clear h0 k0 h1 k1
        go_wp2_with fail
        refine (l1Below_any B q 5 _ D3.out.cur (by omega) (by omega)).mono ?_
        rintro e w4 ⟨m, rfl, m0, m1, c4, g4⟩
        have D4 := hide (D3.out.draws hqX hRq c4 g4)
        clear c4 g4 D3
        have r6 := boxk_cell D4.out.box 6 _ rfl
        have f6 := boxk_frozen D4.out.box 6
        have r7 := boxk_cell D4.out.box 7 _ rfl
        have f7 := boxk_frozen D4.out.box 7
        have r8 := boxk_cell D4.out.box 8 _ rfl
        have f8 := boxk_frozen D4.out.box 8
        have r9 := boxk_cell D4.out.box 9 _ rfl
        have f9 := boxk_frozen D4.out.box 9
        have r10 := boxk_cell D4.out.box 10 _ rfl
        have f10 := boxk_frozen D4.out.box 10
        have P := box11_setR D4.out.box (.int .i64 m) (.string ⟨#[]⟩) (.int .i64 0) (.int .i64 0) (.string ⟨#[]⟩)
        have D5 := hide (D4.out.put (z := ⟨x.Op, x.L, ⟨m, ⟨#[]⟩, ⟨0, 0, ⟨#[]⟩⟩⟩⟩) hqX hRX hBX z1 P.2 P.1 ⟨D4.out.small.1, emp_small, emp_small⟩)
        clear P
        go_upto_region 9 with fail
        clear r6 f6 r7 f7 r8 f8 r9 f9 r10 f10 D4
        generalize (((((w4.setCell ⟨w1.heap.size, 6, none⟩ (.int .i64 m)).setCell ⟨w1.heap.size, 7, none⟩ (.string ⟨#[]⟩)).setCell ⟨w1.heap.size, 8, none⟩ (.int .i64 0)).setCell ⟨w1.heap.size, 9, none⟩ (.int .i64 0)).setCell ⟨w1.heap.size, 10, none⟩ (.string ⟨#[]⟩)) = w5 at D5
        generalize (⟨x.Op, x.L, ⟨m, ⟨#[]⟩, ⟨0, 0, ⟨#[]⟩⟩⟩⟩ : C11) = y at D5
      case' neg =>
        have k2 : (n == 2) = false := by simpa using h2
        go_upto_region 9 with fail
        clear h0 h1 h2 k0 k1 k2
        obtain ⟨y, hy⟩ : ∃ y, y = x := ⟨_, rfl⟩
        obtain ⟨w5, hw5⟩ : ∃ w5, w5 = w3 := ⟨_, rfl⟩
        rw [← hw5, ← hy] at D3
        rw [← hw5]
        have D5 := D3
        clear D3 hw5 hy
  all_goals
    have l5 := (Array.getElem?_eq_some_iff.1 D5.out.res).1
    have a0 := boxk_cell D5.out.box 0 _ rfl
    have a1 := boxk_cell D5.out.box 1 _ rfl
    have a2 := boxk_cell D5.out.box 2 _ rfl
    have a3 := boxk_cell D5.out.box 3 _ rfl
    have a4 := boxk_cell D5.out.box 4 _ rfl
    have a5 := boxk_cell D5.out.box 5 _ rfl
    have a6 := boxk_cell D5.out.box 6 _ rfl
    have a7 := boxk_cell D5.out.box 7 _ rfl
    have a8 := boxk_cell D5.out.box 8 _ rfl
    have a9 := boxk_cell D5.out.box 9 _ rfl
    have a10 := boxk_cell D5.out.box 10 _ rfl
    have r0 := boxk_cell D5.out.res 0 _ rfl
    have f0 := boxk_frozen D5.out.res 0
    have r1 := boxk_cell D5.out.res 1 _ rfl
    have f1 := boxk_frozen D5.out.res 1
    have r2 := boxk_cell D5.out.res 2 _ rfl
    have f2 := boxk_frozen D5.out.res 2
    have r3 := boxk_cell D5.out.res 3 _ rfl
    have f3 := boxk_frozen D5.out.res 3
    have r4 := boxk_cell D5.out.res 4 _ rfl
    have f4 := boxk_frozen D5.out.res 4
    have r5 := boxk_cell D5.out.res 5 _ rfl
    have f5 := boxk_frozen D5.out.res 5
    have r6 := boxk_cell D5.out.res 6 _ rfl
    have f6 := boxk_frozen D5.out.res 6
    have r7 := boxk_cell D5.out.res 7 _ rfl
    have f7 := boxk_frozen D5.out.res 7
    have r8 := boxk_cell D5.out.res 8 _ rfl
    have f8 := boxk_frozen D5.out.res 8
    have r9 := boxk_cell D5.out.res 9 _ rfl
    have f9 := boxk_frozen D5.out.res 9
    have r10 := boxk_cell D5.out.res 10 _ rfl
    have f10 := boxk_frozen D5.out.res 10
    go_wp2
    refine box11_post D5.out.res (fun w6 h6 gr => ?_)
    clear r0 f0 a0 r1 f1 a1 r2 f2 a2 r3 f3 a3 r4 f4 a4 r5 f5 a5 r6 f6 a6 r7 f7 a7 r8 f8 a8 r9 f9 a9 r10 f10 a10
    have b0 := boxk_cell h6 0 _ rfl
    have b1 := boxk_cell h6 1 _ rfl
    have b2 := boxk_cell h6 2 _ rfl
    have b3 := boxk_cell h6 3 _ rfl
    have b4 := boxk_cell h6 4 _ rfl
    have b5 := boxk_cell h6 5 _ rfl
    have b6 := boxk_cell h6 6 _ rfl
    have b7 := boxk_cell h6 7 _ rfl
    have b8 := boxk_cell h6 8 _ rfl
    have b9 := boxk_cell h6 9 _ rfl
    have b10 := boxk_cell h6 10 _ rfl
    refine bodyPost_ret (v := .agg #[.int .i64 y.Op, .int .i64 y.L.K, .string y.L.S, .int .i64 y.L.V.K, .int .i64 y.L.V.N, .string y.L.V.S, .int .i64 y.R.K, .string y.R.S, .int .i64 y.R.V.K, .int .i64 y.R.V.N, .string y.R.V.S]) (by simp [results, Tryd.results13, go_sem, b0, b1, b2, b3, b4, b5, b6, b7, b8, b9, b10]) rfl ⟨y, rfl, D5.out.small, D5.out.cur.keep gr (by simp; omega) (by intro k hk; cases hk; omega), grown_more D5.out.gr gr (by intro k hk; cases hk; omega)⟩
end Go.Proofs.YtlaoiagpoomldaaDoor
/-
  The contracts of what HoldAll is asked (some conditions and some binds), and of what CondText is asked.
-/
namespace Go.Proofs.YtlaoiagpoomldaaDoor
open Go.RowKit
set_option linter.unusedVariables false

theorem src11 (W : World) (x : C11) : ∀ j u, (x.cs)[j]? = some u → (W.alloc (.cells #[.int .i64 x.Op, .int .i64 x.L.K, .string x.L.S, .int .i64 x.L.V.K, .int .i64 x.L.V.N, .string x.L.V.S, .int .i64 x.R.K, .string x.R.S, .int .i64 x.R.V.K, .int .i64 x.R.V.N, .string x.R.V.S] 34)).cell? ((⟨W.heap.size, 0, none⟩ : Addr).add j) = some u := by
  intro j u hj
  rw [Addr.add_lit, Nat.zero_add]
  have hb : (W.alloc (.cells #[.int .i64 x.Op, .int .i64 x.L.K, .string x.L.S, .int .i64 x.L.V.K, .int .i64 x.L.V.N, .string x.L.V.S, .int .i64 x.R.K, .string x.R.S, .int .i64 x.R.V.K, .int .i64 x.R.V.N, .string x.R.V.S] 34)).heap[W.heap.size]? = some (.cells #[.int .i64 x.Op, .int .i64 x.L.K, .string x.L.S, .int .i64 x.L.V.K, .int .i64 x.L.V.N, .string x.L.V.S, .int .i64 x.R.K, .string x.R.S, .int .i64 x.R.V.K, .int .i64 x.R.V.N, .string x.R.V.S] 34 (0, 0)) := by rw [heap_alloc_new]
  rw [cell_of_row _ _ j _ _ (0, 0) hb, ← hj]
  simp [C11.cs]
theorem one11 (x : C11) : ∀ u ∈ x.cs, u.oneCell' = true := by
  intro u hu
  simp only [C11.cs, List.mem_cons, List.not_mem_nil, or_false] at hu
  rcases hu with rfl | rfl | rfl | rfl | rfl | rfl | rfl | rfl | rfl | rfl | rfl <;> rfl

/-- some conditions and some binds were drawn -/
def DrawnHA (w : World) (e : Ending) (w' : World) : Prop := ∃ (g c : Nat) (L : List C11) (g2 c2 : Nat) (M : List B4), e = .returned (.tuple #[.slice (some ⟨g, 0, none⟩) L.length c, .slice (some ⟨g2, 0, none⟩) M.length c2]) ∧ L.length ≤ 3 ∧ (∀ y ∈ L, y.small) ∧ M.length ≤ 3 ∧ (∀ y ∈ M, y.small) ∧ RdCond w' (some ⟨g, 0, none⟩) L ∧ RdBind w' (some ⟨g2, 0, none⟩) M ∧ Below w.heap.size w w'

set_option maxRecDepth 100000 in
set_option maxHeartbeats 3200000 in
theorem drawHoldAll_any (a : Option Addr) (cap : Nat) (code : List UInt8) (w : World) (hr : Rd w a code) (hn : code.length ≤ 1048576) :
    Calls Tryd.prog 5 #[.slice a code.length cap] w (DrawnHA w) := by
  obtain ⟨i0, hi, hz0, hz1, hz2⟩ := info_parts Tryd.info34
  go_enter Tryd.func5, Tryd.ntmps5
  go_wp2_with fail
  refine (l1New_any w.heap.size a cap code w hr.toB hn (Nat.le_refl _)).mono ?_
  rintro e w0 ⟨rfl, hc, g0⟩
  have B0 : Below w.heap.size w w0 := (Below.refl _ _).grown g0 (Nat.le_refl _) (fun k hk => by cases hk)
  have hq := hc.lt
  clear g0
  go_wp2_with fail
  have c0 : Cur w.heap.size (w0.alloc (.cells #[] 34)) w.heap.size := hc.keep (World.grownBy_alloc w0 _ none) (by simp) (by simp)
  have ho0 := World.ownsRow_lit (base := w0.heap.size) (e := 34) (size := 11) w0 #[] 0 (Nat.le_refl _) (Nat.zero_le _) rfl
  have G0 := grown_alloc w0 (.cells #[] 34) w.heap.size
  have hs0 : w0.heap.size < (w0.alloc (.cells #[] 34)).heap.size := by simp
  refine (l1Below_any w.heap.size w.heap.size 3 _ c0 (by omega) (by omega)).mono ?_
  rintro e w1 ⟨x, rfl, x0, x1, c1, g1⟩
  have ho1 : w1.ownsRow w0.heap.size 34 11 (.slice (some ⟨w0.heap.size, 0, none⟩) 0 0) 0 [] := ho0.kept g1 (.inr (by simp [Value.ownBlock]; omega))
  have G1 : w0.grownBy w1 (some w.heap.size) := grown_trans G0 g1
  have hs1 := Nat.lt_of_lt_of_le hs0 g1.size
  clear g1 c0 ho0 G0 hs0 hc
  obtain ⟨n, rfl⟩ := Int.eq_ofNat_of_zero_le x0
  have hn3 : n ≤ 3 := by omega
  go_wp2
  go_loopw [5, 6] (fun v i wr => ∃ (k g c : Nat) (L : List C11), k + L.length = n ∧ i = .int .i64 k ∧ v = .slice (some ⟨g, 0, none⟩) L.length c ∧ wr.ownsRow w0.heap.size 34 11 (.slice (some ⟨g, 0, none⟩) L.length c) L.length (rowOf C11.cs L) ∧ (∀ x ∈ L, x.small) ∧ Cur w.heap.size wr w.heap.size ∧ w0.grownBy wr (some w.heap.size)) (fun _ i _ => (intOf i).toNat)
  case atStart => exact ⟨n, w0.heap.size, 0, [], by simp, rfl, rfl, ho1, (fun x hx => by cases hx), c1, G1⟩
  case round =>
    obtain ⟨k, g, c, L, hkn, rfl, rfl, hown, hsm, cr, gr⟩ := hrel
    have HSm := hide hsm
    have HO := hide hown
    have HG := hide gr
    have hzr := gr.size
    have hqr := cr.lt
    clear ho1 c1 G1 hsm hown gr
    by_cases hlt : 0 < k
    · have hk1 : (0 : Int) < (k : Int) := by omega
      go_wp2_with fail
      refine (l7Any_any w.heap.size w.heap.size _ cr).mono ?_
      rintro e w3 ⟨u, rfl, hu, c3, g3⟩
      have HO3 := hide ((HO.out.kept g3 (.inr (by have := (HO.out.lt g rfl).1; simp [Value.ownBlock]; omega))).alloc (.cells #[.int .i64 u.Op, .int .i64 u.L.K, .string u.L.S, .int .i64 u.L.V.K, .int .i64 u.L.V.N, .string u.L.V.S, .int .i64 u.R.K, .string u.R.S, .int .i64 u.R.V.K, .int .i64 u.R.V.N, .string u.R.V.S] 34))
      have HG3 := hide (grown_trans (grown_trans HG.out g3) (grown_alloc w3 (.cells #[.int .i64 u.Op, .int .i64 u.L.K, .string u.L.S, .int .i64 u.L.V.K, .int .i64 u.L.V.N, .string u.L.V.S, .int .i64 u.R.K, .string u.R.S, .int .i64 u.R.V.K, .int .i64 u.R.V.N, .string u.R.V.S] 34) w.heap.size))
      have c4 : Cur w.heap.size (w3.alloc (.cells #[.int .i64 u.Op, .int .i64 u.L.K, .string u.L.S, .int .i64 u.L.V.K, .int .i64 u.L.V.N, .string u.L.V.S, .int .i64 u.R.K, .string u.R.S, .int .i64 u.R.V.K, .int .i64 u.R.V.N, .string u.R.V.S] 34)) w.heap.size := c3.keep (World.grownBy_alloc w3 _ none) (by simp) (by simp)
      have HSrc := hide (src11 w3 u)
      have HU := hide hu
      have HApp : Hid (rowOf C11.cs L ++ C11.cs u = rowOf C11.cs (L ++ [u])) := by unfold Hid; rw [rowOf_append]; simp [rowOf]
      have hz4 := HG3.out.size
      clear g3 HO HG c3 hu cr
      go_wp2_with (at_builtin; refine wpList_append_lies _ rfl (.tmp 16) (.tmp 19) 24 rfl w0.heap.size 34 i0 (.agg #[.int .i64 0, .int .i64 0, .string ⟨#[]⟩, .int .i64 0, .int .i64 0, .string ⟨#[]⟩, .int .i64 0, .string ⟨#[]⟩, .int .i64 0, .int .i64 0, .string ⟨#[]⟩]) 11 120 Tryd.underlying24 hi hz0 hz1 hz2 rfl (by omega) (.slice (some ⟨g, 0, none⟩) L.length c) L.length (rowOf C11.cs L) rfl HO3.out ⟨w3.heap.size, 0, none⟩ 1 1 (C11.cs u) ?hx rfl HSrc.out (one11 _) (by omega) (by unfold maxLen; omega) (by omega) hz4 _ rfl ?_)
      case hx => simp [Act.eval]
      intro g5 c5 w5 ho5 hg5 hat5 hlt5
      rw [HApp.out] at ho5
      have HO5 := hide ho5
      have hgb := (HO3.out.lt g rfl).1
      have c6 : Cur w.heap.size w5 w.heap.size := c4.keep hg5 (by simp [Value.ownBlock]; omega) (fun j hj => by have := (HO3.out.lt j hj).1; omega)
      have HG5 := hide (grown_more HG3.out hg5 (fun j hj => (HO3.out.lt j hj).1))
      clear ho5 hg5 hat5 hlt5 HO3 HG3 HSrc c4
      go_wp2
      go_roundw
      case rel => exact ⟨k - 1, g5, c5, L ++ [u], by simp; omega, by go_num, by simp, by rw [show (L ++ [u]).length = L.length + 1 by simp]; exact HO5.out, fun x hx => by
          rcases List.mem_append.1 hx with h | h
          · exact HSm.out x h
          · simp only [List.mem_cons, List.not_mem_nil, or_false] at h
            rw [h]; exact HU.out, c6, HG5.out⟩
      case measure => simp [intOf]; omega
    · obtain rfl : k = 0 := by omega
      have hL3 : L.length ≤ 3 := by omega
      go_wp2_with fail
      refine (l6Binds_any w.heap.size w.heap.size _ cr).mono ?_
      rintro e w3 ⟨g2, cc, M, rfl, hM, hsmM, o3, c3, g3⟩
      have hg := (HO.out.lt g rfl).1
      have o4 := HO.out.kept g3 (.inr (by simp [Value.ownBlock]; omega))
      have rL : RdCond w3 (some ⟨g, 0, none⟩) L := rdOwnCond (OwnK.of C11.len (by decide) o4)
      have rM : RdBind w3 (some ⟨g2, 0, none⟩) M := rdOwnBind (OwnK.of B4.len (by decide) o3)
      have BE : Below w.heap.size w w3 := (B0.grown HG.out B0.size (fun j hj => by cases hj; exact Nat.le_refl _)).grown g3 (Nat.le_trans B0.size hzr) (fun j hj => by cases hj; exact Nat.le_refl _)
      have HD : Hid (DrawnHA w (.returned (.tuple #[.slice (some ⟨g, 0, none⟩) L.length c, .slice (some ⟨g2, 0, none⟩) M.length cc])) w3) := ⟨g, c, L, g2, cc, M, rfl, hL3, HSm.out, hM, hsmM, rL, rM, BE⟩
      clear HO HG HSm cr hsmM o3 c3 g3 o4 rL rM BE
      go_wp2
      go_returns
      exact HD.out

/-- some condition was drawn -/
def DrawnCT (w : World) (e : Ending) (w' : World) : Prop := ∃ x : C11, e = .returned (.agg #[.int .i64 x.Op, .int .i64 x.L.K, .string x.L.S, .int .i64 x.L.V.K, .int .i64 x.L.V.N, .string x.L.V.S, .int .i64 x.R.K, .string x.R.S, .int .i64 x.R.V.K, .int .i64 x.R.V.N, .string x.R.V.S]) ∧ x.small ∧ Below w.heap.size w w'
set_option maxRecDepth 100000 in
set_option maxHeartbeats 1600000 in
theorem drawCondText_any (a : Option Addr) (cap : Nat) (code : List UInt8) (w : World) (hr : Rd w a code) (hn : code.length ≤ 1048576) :
    Calls Tryd.prog 7 #[.slice a code.length cap] w (DrawnCT w) := by
  go_enter Tryd.func7, Tryd.ntmps7
  go_wp2_with fail
  have b1 := below_al w (.cells #[.int .i64 0, .int .i64 0, .string ⟨#[]⟩, .int .i64 0, .int .i64 0, .string ⟨#[]⟩, .int .i64 0, .string ⟨#[]⟩, .int .i64 0, .int .i64 0, .string ⟨#[]⟩] 34)
  have r1 := boxk_new w #[.int .i64 0, .int .i64 0, .string ⟨#[]⟩, .int .i64 0, .int .i64 0, .string ⟨#[]⟩, .int .i64 0, .string ⟨#[]⟩, .int .i64 0, .int .i64 0, .string ⟨#[]⟩] 34
  have z1 : (w.alloc (.cells #[.int .i64 0, .int .i64 0, .string ⟨#[]⟩, .int .i64 0, .int .i64 0, .string ⟨#[]⟩, .int .i64 0, .string ⟨#[]⟩, .int .i64 0, .int .i64 0, .string ⟨#[]⟩] 34)).heap.size = w.heap.size + 1 := by simp
  generalize w.alloc (.cells #[.int .i64 0, .int .i64 0, .string ⟨#[]⟩, .int .i64 0, .int .i64 0, .string ⟨#[]⟩, .int .i64 0, .string ⟨#[]⟩, .int .i64 0, .int .i64 0, .string ⟨#[]⟩] 34) = w0 at b1 r1 z1 ⊢
  refine (l1New_any w.heap.size a cap code w0 (hr.toB.below b1) hn b1.size).mono ?_
  rintro e w1 ⟨rfl, c1, g1⟩
  rw [z1] at c1 ⊢
  have q1 := c1.lt
  have R1 := hide (show w1.heap[w.heap.size]? = _ from (g1.block _ (by omega) (by simp)).trans r1)
  have B1 : Below w.heap.size w w1 := b1.trans ((((Below.refl _ _).grown g1 (Nat.le_refl _) (fun k hk => by cases hk))).mono b1.size)
  clear r1 b1 g1
  go_wp2_with fail
  refine (l7Any_any w.heap.size (w.heap.size + 1) w1 c1).mono ?_
  rintro e w2 ⟨x, rfl, hx, c2, g2⟩
  have R3 := hide (box_grown R1.out g2 (by omega))
  have B2 : Below w.heap.size w w2 := B1.grown g2 B1.size (fun k hk => by cases hk; omega)
  clear R1 g2 B1 c1
  have r0 := boxk_cell R3.out 0 _ rfl
  have f0 := boxk_frozen R3.out 0
  have r1 := boxk_cell R3.out 1 _ rfl
  have f1 := boxk_frozen R3.out 1
  have r2 := boxk_cell R3.out 2 _ rfl
  have f2 := boxk_frozen R3.out 2
  have r3 := boxk_cell R3.out 3 _ rfl
  have f3 := boxk_frozen R3.out 3
  have r4 := boxk_cell R3.out 4 _ rfl
  have f4 := boxk_frozen R3.out 4
  have r5 := boxk_cell R3.out 5 _ rfl
  have f5 := boxk_frozen R3.out 5
  have r6 := boxk_cell R3.out 6 _ rfl
  have f6 := boxk_frozen R3.out 6
  have r7 := boxk_cell R3.out 7 _ rfl
  have f7 := boxk_frozen R3.out 7
  have r8 := boxk_cell R3.out 8 _ rfl
  have f8 := boxk_frozen R3.out 8
  have r9 := boxk_cell R3.out 9 _ rfl
  have f9 := boxk_frozen R3.out 9
  have r10 := boxk_cell R3.out 10 _ rfl
  have f10 := boxk_frozen R3.out 10
  go_wp2
  refine box11_post R3.out (fun w4 h4 gr => ?_)
  clear r0 f0 r1 f1 r2 f2 r3 f3 r4 f4 r5 f5 r6 f6 r7 f7 r8 f8 r9 f9 r10 f10
  have b0 := boxk_cell h4 0 _ rfl
  have b1 := boxk_cell h4 1 _ rfl
  have b2 := boxk_cell h4 2 _ rfl
  have b3 := boxk_cell h4 3 _ rfl
  have b4 := boxk_cell h4 4 _ rfl
  have b5 := boxk_cell h4 5 _ rfl
  have b6 := boxk_cell h4 6 _ rfl
  have b7 := boxk_cell h4 7 _ rfl
  have b8 := boxk_cell h4 8 _ rfl
  have b9 := boxk_cell h4 9 _ rfl
  have b10 := boxk_cell h4 10 _ rfl
  refine bodyPost_ret (v := .agg #[.int .i64 x.Op, .int .i64 x.L.K, .string x.L.S, .int .i64 x.L.V.K, .int .i64 x.L.V.N, .string x.L.V.S, .int .i64 x.R.K, .string x.R.S, .int .i64 x.R.V.K, .int .i64 x.R.V.N, .string x.R.V.S]) (by simp [results, Tryd.results7, go_sem, b0, b1, b2, b3, b4, b5, b6, b7, b8, b9, b10]) rfl ⟨x, rfl, hx, below_set B2 gr (by omega)⟩
end Go.Proofs.YtlaoiagpoomldaaDoor
