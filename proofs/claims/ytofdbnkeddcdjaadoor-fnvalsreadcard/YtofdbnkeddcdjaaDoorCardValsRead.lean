/-
  Proved: the row on what is read as a value (for every row of bytes the law answers true: what is read of a drawn text as a value is right, and has that text; so of bytes; and the row reads as it did, where the library's tables and its two errors read as listed), and its tied card.
-/
import Derived.Test.YtofdbnkeddcdjaaDoorCanon
import Derived.Test.YtofdbnkeddcdjaaDoorDrawR
import Derived.Test.YtofdbnkeddcdjaaDoorValsP
import Derived.Test.YtofdbnkeddcdjaaDoorPutValI
import Derived.Test.YtofdbnkeddcdjaaDoorGetValI
import Derived.Test.YtofdbnkeddcdjaaDoorGetValS
import Derived.Test.YtofdbnkeddcdjaaDoorOwnD
import Derived.Test.YtofdbnkeddcdjaaDoorCardBase
import Derived.Deep.RegionHeld3
import Derived.OpenShut
import Derived.ShutString
import Derived.ChangeOld
import Derived.Below
namespace Go.Proofs.YtofdbnkeddcdjaaDoor.CardValsRead
open Go.ChangeShapes Go.WideShapes Go.ChangeAt Go.RowKit Go.Joins
open Go.ChangeMaps (open_string shut_string)
set_option linter.unusedVariables false

set_option maxHeartbeats 400000 in
theorem big_any (a : Option Addr) (len cap : Nat) (w : World) (h : len ≤ 9223372036854775807) :
    Calls Tryd.prog 5 #[.slice a len cap] w fun e w' => e = .returned (.bool (decide ((1048576 : Int) < (len : Int)))) ∧ w' = w := by
  go_enter Tryd.func5, Tryd.ntmps5
  go_wp2
  go_ret
  exact ⟨rfl, rfl⟩
/-- what is read of a text is right, and has that text -/
theorem parse_canon {s : ByteArray} {v : V3} (h : parseO s = some v) : valB v.K v.N v.S = true ∧ textV v.K v.N v.S = s ∧ v.S.size ≤ 20 := by
  unfold parseO at h
  split at h
  · rename_i hq
    obtain ⟨h1, h0, h2⟩ := quotedB_iff.1 hq
    split at h
    · rename_i hv
      simp only [Option.some.injEq] at h
      subst h
      exact ⟨hv, by rw [textV_text hv (by decide)]; exact inner_of h1 h0 h2, (valB_two hv (by decide)).2.2⟩
    · cases h
  · cases hn : numV s.data.toList with
    | none => rw [hn] at h; cases h
    | some n =>
      rw [hn] at h
      simp only [Option.map_some, Option.some.injEq] at h
      subst h
      obtain ⟨h1, h2⟩ := numV_some hn
      have hv : valB 1 n ⟨#[]⟩ = true := by rw [valB_num _ (numOk_iff.1 h1)]; decide
      refine ⟨hv, ?_, Nat.zero_le _⟩
      show textV 1 n ⟨#[]⟩ = s
      rw [textV_num hv, ← h2]
theorem valB_small {K N : Int} {S : ByteArray} (h : valB K N S = true) : S.size ≤ 20 := by
  by_cases hk : K = 1
  · subst hk; rw [(valB_one h).2]; decide
  · exact (valB_two h hk).2.2

set_option maxRecDepth 100000 in
set_option maxHeartbeats 1600000 in
theorem sameBytes_of (a b : Option Addr) (n m ca cb : Nat) (bs : List UInt8) (w : World) (hn : bs.length = n) (hm : bs.length = m) (hr : Rd w a bs) (hq : Rd w b bs) (hl : bs.length ≤ 1048580) :
    Calls Tryd.prog 17 #[.slice a n ca, .slice b m cb] w fun e w' => e = .returned (.bool true) ∧ Below w.heap.size w w' := by
  obtain rfl : n = m := by omega
  have HN := hide hn
  rw [hn] at hl
  clear hn hm
  have hnn : ((n : Int) != (n : Int)) = false := by simp
  go_enter Tryd.func17, Tryd.ntmps17
  go_wp2
  go_loopw [5] (fun i wr => ∃ (k nd : Nat), k ≤ n ∧ i = .int .i64 k ∧ wr = w.drewN nd) (fun i _ => n - (intOf i).toNat)
  case atStart => exact ⟨0, 0, Nat.zero_le _, rfl, rfl⟩
  case round =>
    obtain ⟨k, nd, hk, rfl, rfl⟩ := hrel
    by_cases hlt : k < n
    · obtain ⟨b1, o1, e1, -, hc1⟩ := hr.open (by rw [HN.out]; omega)
      obtain ⟨b2, o2, e2, -, hc2⟩ := hq.open (by rw [HN.out]; omega)
      have c0 := hc1 k (by rw [HN.out]; exact hlt)
      have d0 := hc2 k (by rw [HN.out]; exact hlt)
      have l1 : (k : Int) < (n : Int) := by omega
      clear hc1 hc2
      subst e1 e2
      generalize byteAt bs k = z at c0 d0
      have k1 : (z != z) = false := by simp
      go_wp2
      go_quiet (fail)
      go_wp2
      go_roundw
      case rel => exact ⟨k + 1, _, by omega, by go_num, rfl⟩
      case measure => simp [intOf]; omega
    · go_wp2
      go_ret
      exact ⟨rfl, below_drewN _ _ _⟩
theorem putNil (p : Addr) (K N : Int) (S : ByteArray) (w : World) (hs : S.size ≤ 1048580) :
    Calls Tryd.prog 11 #[.slice (some p) 0 0, .agg #[.int .i64 K, .int .i64 N, .string S]] w fun e w' =>
      ∃ g c, e = .returned (.slice (some ⟨g, 0, none⟩) (encV K N S).length c) ∧ Own w' g c (encV K N S) ∧ Below w.heap.size w w' := by
  refine (implPutVal_any (some p) 0 K N S [] w (fun i hi => absurd hi (Nat.not_lt_zero _)) (by simp) hs).mono fun e w' h => ?_
  obtain ⟨v, he, ho, hb⟩ := h
  rw [List.nil_append] at ho
  obtain ⟨g, c, rfl, -, o⟩ := owns_own ho (encV_pos K N S)
  exact ⟨g, c, he, o, hb⟩
theorem keep3P {P : World → Prop} {W w' : World} {p0 p1 p2 : Addr} {v0 v1 v2 : Value} (hP : ∀ {W W' : World}, P W → Below W.heap.size W W' → P W') (hb : Below W.heap.size W w')
    (h : W.cell? p0 = some v0 ∧ W.cell? p1 = some v1 ∧ W.cell? p2 = some v2 ∧ P W) : w'.cell? p0 = some v0 ∧ w'.cell? p1 = some v1 ∧ w'.cell? p2 = some v2 ∧ P w' := by
  obtain ⟨h0, h1, h2, h3⟩ := h
  have k : ∀ {a : Addr} {v : Value}, W.cell? a = some v → w'.cell? a = some v := fun {a v} h => by rw [hb.cell (World.block_lt_of_cell? W _ h)]; exact h
  exact ⟨k h0, k h1, k h2, hP h3 hb⟩
/-- the bytes that were drawn, and all that was there -/
def Bs (w : World) (g : Nat) (bs : List UInt8) (W : World) : Prop := Rd W (some ⟨g, 0, none⟩) bs ∧ Below w.heap.size w W
theorem Bs.keep {w : World} {g : Nat} {bs : List UInt8} {W W' : World} (h : Bs w g bs W) (hb : Below W.heap.size W W') : Bs w g bs W' := ⟨h.1.below hb, h.2.trans (hb.mono h.2.size)⟩
theorem ansO_shape (s : ByteArray) : ∃ K N S b, ansO (parseO s) = .tuple #[.agg #[.int .i64 K, .int .i64 N, .string S], .bool b] ∧ (b = true → valB K N S = true ∧ textV K N S = s) ∧ S.size ≤ 20 := by
  cases h : parseO s with
  | none => exact ⟨0, 0, ⟨#[]⟩, false, rfl, fun h => (Bool.noConfusion h : _), Nat.zero_le _⟩
  | some v => obtain ⟨h1, h2, h3⟩ := parse_canon h; exact ⟨v.K, v.N, v.S, true, rfl, fun _ => ⟨h1, h2⟩, h3⟩

set_option maxRecDepth 100000 in
set_option maxHeartbeats 6400000 in
theorem law (a : Option Addr) (cap : Nat) (code : List UInt8) (w : World) (hr : Rd w a code) (hm : code.length ≤ maxLen) (ht : Tab w) (he : Errs w) :
    Calls Tryd.prog 4 #[.slice a code.length cap] w fun e w' => e = .returned (.bool true) ∧ Below w.heap.size w w' := by
  have HTab := hide ht
  have HErr := hide he
  clear ht he
  unfold maxLen at hm
  by_cases hb : 1048576 < code.length
  · have hd : decide ((1048576 : Int) < (code.length : Int)) = true := by simp; omega
    go_enter Tryd.func4, Tryd.ntmps4
    go_wp2_with (go_at_call 5; refine (big_any _ _ _ _ (by omega)).mono ?_; rintro e w' ⟨rfl, rfl⟩)
    go_ret
    exact ⟨rfl, Below.refl _ _⟩
  have hd : decide ((1048576 : Int) < (code.length : Int)) = false := by simp; omega
  have HRD : Hid (∀ W, Below w.heap.size w W → Rd W a code) := fun W h => hr.below h
  go_enter Tryd.func4, Tryd.ntmps4
  go_wp2_with fail
  refine (big_any _ _ _ _ (by omega)).mono ?_
  rintro e w0 ⟨rfl, rfl⟩
  clear hd
  go_wp2_with fail
  refine (drawParseVal_any a cap code w0 hr (by omega)).mono ?_
  rintro e w1 ⟨s, rfl, hs, B1⟩
  clear hr
  obtain ⟨K, N, S, ok, hO, hok, hS⟩ := ansO_shape s
  have HO := hide hO
  have HOk := hide hok
  clear hO hok
  go_wp2_with fail
  refine (implParse_any s w1 (by omega) (HTab.out.later B1 (Nat.le_refl _)) (HErr.out.later B1 (Nat.le_refl _))).mono ?_
  rw [HO.out]
  rintro e w2 ⟨rfl, b2⟩
  have B2 : Below w0.heap.size w0 w2 := B1.trans (b2.mono B1.size)
  clear b2 B1
  have ba := below_al w2 (.cells #[.int .i64 K, .int .i64 N, .string S] 25)
  have hV := box_new w2 (.int .i64 K) (.int .i64 N) (.string S) 25
  have B3 := B2.trans (ba.mono B2.size)
  clear ba B2
  go_wp2_with fail
  generalize w2.alloc (.cells #[.int .i64 K, .int .i64 N, .string S] 25) = w3 at hV B3 ⊢
  obtain ⟨V, HVq⟩ : ∃ V, Hid (w2.heap.size = V) := ⟨_, rfl⟩
  rw [HVq.out] at hV ⊢
  refine (specParse_any s w3 (by omega)).mono ?_
  rw [HO.out]
  rintro e w4 ⟨rfl, b4⟩
  replace hV := box_step hV b4
  have B4 : Below w0.heap.size w0 w4 := B3.trans (b4.mono B3.size)
  clear b4 B3
  have ba := below_al w4 (.cells #[.int .i64 K, .int .i64 N, .string S] 25)
  replace hV := box_step hV ba
  have B5 := B4.trans (ba.mono B4.size)
  clear ba B4
  go_wp2_with fail
  generalize w4.alloc (.cells #[.int .i64 K, .int .i64 N, .string S] 25) = w5 at hV B5 ⊢
  refine (drawGetVal_any a cap code w5 (HRD.out _ B5) (by omega)).mono ?_
  rintro e w6 ⟨⟨g, cg, bs, x, rfl, hl, hc, hb6⟩, b6⟩
  replace hV := box_step hV b6
  have B6 : Below w0.heap.size w0 w6 := B5.trans (b6.mono B5.size)
  clear b6 B5
  obtain ⟨K', N', S', q, is, hG⟩ : ∃ K' N' S' q is, valR bs x = (K', N', S', q, is) := ⟨_, _, _, _, _, rfl⟩
  have HG := hide hG
  clear hG
  go_wp2_with fail
  refine (implGetVal_any _ cg x bs w6 hb6 (by omega) hc (by simp)).mono ?_
  rw [HG.out]
  rintro e w7 ⟨rfl, b7⟩
  replace hV := box_step hV b7
  have r7 := hb6.below b7
  have B7 : Below w0.heap.size w0 w7 := B6.trans (b7.mono B6.size)
  clear b7 B6 hb6
  unfold valT
  have ba := below_al w7 (.cells #[.int .i64 K', .int .i64 N', .string S'] 25)
  have hX := box_new w7 (.int .i64 K') (.int .i64 N') (.string S') 25
  replace hV := box_step hV ba
  have r8 := r7.below ba
  have B8 := B7.trans (ba.mono B7.size)
  clear ba B7 r7
  go_wp2_with fail
  generalize w7.alloc (.cells #[.int .i64 K', .int .i64 N', .string S'] 25) = w8 at hV hX r8 B8 ⊢
  obtain ⟨X, HXq⟩ : ∃ X, Hid (w7.heap.size = X) := ⟨_, rfl⟩
  rw [HXq.out] at hX ⊢
  refine (specGetVal_any _ cg x bs w8 r8 (by omega) hc).mono ?_
  rw [HG.out]
  rintro e w9 ⟨rfl, b9⟩
  replace hV := box_step hV b9
  replace hX := box_step hX b9
  have r9 := r8.below b9
  have B9 : Below w0.heap.size w0 w9 := B8.trans (b9.mono B8.size)
  clear b9 B8 r8
  unfold valT
  have ba := below_al w9 (.cells #[.int .i64 K', .int .i64 N', .string S'] 25)
  replace hV := box_step hV ba
  replace hX := box_step hX ba
  have r10 := r9.below ba
  have B10 := B9.trans (ba.mono B9.size)
  clear ba B9 r9
  obtain ⟨y0, y1, y2, -, -, -⟩ := box_cell hV
  have k1 : (ok != ok) = false := by simp
  have k2 : (is != is) = false := by simp
  cases ok
  · clear y0 y1 y2 hV
    obtain ⟨x0, x1, x2, -, -, -⟩ := box_cell hX
    go_wp2_with fail
    generalize w9.alloc (.cells #[.int .i64 K', .int .i64 N', .string S'] 25) = wT at hX r10 B10 x0 x1 x2 ⊢
    have rT := r10
    have BT := B10
    cases is
    · refine wp_region_held_drew (S := fun W => Below w0.heap.size w0 W) (by kernel_rfl) BT.drew (fun hHeld => ?_)
      refine wpAnyH_take (i := 0) (oi := Oper.mk (some 71) _ _ _ _ _) (v := ?v1) rfl (by kernel_rfl) (by kernel_rfl) (by kernel_rfl) (fun _ _ _ h => h) (Or.inl ⟨by rfl, ?y1⟩) hHeld ?r1
      case y1 => (intro W hSW; go_simp; try with_reducible rfl)
      simp only [Act.put, List.setIfInBounds_toArray, List.set_cons_zero, List.set_cons_succ]
      refine wpAnyH_take (i := 1) (oi := Oper.mk (some 72) _ _ _ _ _) (v := ?v2) rfl (by kernel_rfl) (by kernel_rfl) (by kernel_rfl) (fun _ _ _ h => h) (Or.inl ⟨by rfl, ?y2⟩) hHeld ?r2
      case y2 => (intro W hSW; go_simp; try with_reducible rfl)
      simp only [Act.put, List.setIfInBounds_toArray, List.set_cons_zero, List.set_cons_succ]
      refine wpAnyH_take (i := 2) (oi := Oper.mk (some 73) _ _ _ _ _) (v := ?v3) rfl (by kernel_rfl) (by kernel_rfl) (by kernel_rfl) (fun _ _ _ h => h) (Or.inl ⟨by rfl, ?y3⟩) hHeld ?r3
      case y3 => (intro W hSW; go_simp; try with_reducible rfl)
      simp only [Act.put, List.setIfInBounds_toArray, List.set_cons_zero, List.set_cons_succ]
      refine wpAnyH_take (i := 3) (oi := Oper.mk (some 74) _ _ _ _ _) (v := undef) rfl (by kernel_rfl) (by kernel_rfl) (by kernel_rfl) (fun _ _ _ h => h) (Or.inr ⟨by rfl, rfl⟩) hHeld ?_
      simp only [Act.put, List.setIfInBounds_toArray, List.set_cons_zero, List.set_cons_succ]
      refine wpAnyH_take (i := 4) (oi := Oper.mk (some 75) _ _ _ _ _) (v := undef) rfl (by kernel_rfl) (by kernel_rfl) (by kernel_rfl) (fun _ _ _ h => h) (Or.inr ⟨by rfl, rfl⟩) hHeld ?_
      simp only [Act.put, List.setIfInBounds_toArray, List.set_cons_zero, List.set_cons_succ]
      refine wpAnyH_take (i := 5) (oi := Oper.mk (some 76) _ _ _ _ _) (v := undef) rfl (by kernel_rfl) (by kernel_rfl) (by kernel_rfl) (fun _ _ _ h => h) (Or.inr ⟨by rfl, rfl⟩) hHeld ?_
      simp only [Act.put, List.setIfInBounds_toArray, List.set_cons_zero, List.set_cons_succ]
      refine wpAnyH_take (i := 6) (oi := Oper.mk (some 77) _ _ _ _ _) (v := undef) rfl (by kernel_rfl) (by kernel_rfl) (by kernel_rfl) (fun _ _ _ h => h) (Or.inr ⟨by rfl, rfl⟩) hHeld ?_
      simp only [Act.put, List.setIfInBounds_toArray, List.set_cons_zero, List.set_cons_succ]
      refine wpAnyH_take (i := 7) (oi := Oper.mk (some 78) _ _ _ _ _) (v := undef) rfl (by kernel_rfl) (by kernel_rfl) (by kernel_rfl) (fun _ _ _ h => h) (Or.inr ⟨by rfl, rfl⟩) hHeld ?_
      simp only [Act.put, List.setIfInBounds_toArray, List.set_cons_zero, List.set_cons_succ]
      refine wpAnyH_take (i := 8) (oi := Oper.mk (some 79) _ _ _ _ _) (v := undef) rfl (by kernel_rfl) (by kernel_rfl) (by kernel_rfl) (fun _ _ _ h => h) (Or.inr ⟨by rfl, rfl⟩) hHeld ?_
      simp only [Act.put, List.setIfInBounds_toArray, List.set_cons_zero, List.set_cons_succ]
      refine wpAnyH_take (i := 9) (oi := Oper.mk (some 80) _ _ _ _ _) (v := undef) rfl (by kernel_rfl) (by kernel_rfl) (by kernel_rfl) (fun _ _ _ h => h) (Or.inr ⟨by rfl, rfl⟩) hHeld ?_
      simp only [Act.put, List.setIfInBounds_toArray, List.set_cons_zero, List.set_cons_succ]
      refine wpAnyH_take (i := 10) (oi := Oper.mk (some 81) _ _ _ _ _) (v := undef) rfl (by kernel_rfl) (by kernel_rfl) (by kernel_rfl) (fun _ _ _ h => h) (Or.inr ⟨by rfl, rfl⟩) hHeld ?_
      simp only [Act.put, List.setIfInBounds_toArray, List.set_cons_zero, List.set_cons_succ]
      refine wpAnyH_take (i := 11) (oi := Oper.mk (some 82) _ _ _ _ _) (v := undef) rfl (by kernel_rfl) (by kernel_rfl) (by kernel_rfl) (fun _ _ _ h => h) (Or.inr ⟨by rfl, rfl⟩) hHeld ?_
      simp only [Act.put, List.setIfInBounds_toArray, List.set_cons_zero, List.set_cons_succ]
      refine wpAnyH_take (i := 12) (oi := Oper.mk (some 83) _ _ _ _ _) (v := undef) rfl (by kernel_rfl) (by kernel_rfl) (by kernel_rfl) (fun _ _ _ h => h) (Or.inr ⟨by rfl, rfl⟩) hHeld ?_
      simp only [Act.put, List.setIfInBounds_toArray, List.set_cons_zero, List.set_cons_succ]
      refine wpAnyH_take (i := 13) (oi := Oper.mk (some 84) _ _ _ _ _) (v := undef) rfl (by kernel_rfl) (by kernel_rfl) (by kernel_rfl) (fun _ _ _ h => h) (Or.inr ⟨by rfl, rfl⟩) hHeld ?_
      simp only [Act.put, List.setIfInBounds_toArray, List.set_cons_zero, List.set_cons_succ]
      refine wpAnyH_take (i := 14) (oi := Oper.mk (some 85) _ _ _ _ _) (v := undef) rfl (by kernel_rfl) (by kernel_rfl) (by kernel_rfl) (fun _ _ _ h => h) (Or.inr ⟨by rfl, rfl⟩) hHeld ?_
      simp only [Act.put, List.setIfInBounds_toArray, List.set_cons_zero, List.set_cons_succ]
      refine wpAnyH_take (i := 15) (oi := Oper.mk (some 86) _ _ _ _ _) (v := ?v4) rfl (by kernel_rfl) (by kernel_rfl) (by kernel_rfl) (fun _ _ _ h => h) (Or.inl ⟨by rfl, ?y4⟩) hHeld ?r4
      case y4 => (intro W hSW; go_simp; try with_reducible rfl)
      simp only [Act.put, List.setIfInBounds_toArray, List.set_cons_zero, List.set_cons_succ]
      refine wpAnyH_take (i := 16) (oi := Oper.mk (some 2) _ _ _ _ _) (v := ?v5) rfl (by kernel_rfl) (by kernel_rfl) (by kernel_rfl) (fun _ _ _ h => h) (Or.inl ⟨by rfl, ?y5⟩) hHeld ?r5
      case y5 => (intro W hSW; go_simp; try with_reducible rfl)
      simp only [Act.put, List.setIfInBounds_toArray, List.set_cons_zero, List.set_cons_succ]
      refine wpAnyH_done (by kernel_rfl) ?_ _
      go_wp2
      go_ret
      exact ⟨rfl, hHeld⟩
    · obtain ⟨hv', A, B, rfl, rfl, hAB, hBl, hseg⟩ := val_canon HG.out
      have hS' := valB_small hv'
      have hS2 : S'.size ≤ 1048580 := by omega
      have HVB := hide hv'
      have HSeg := hide hseg
      have HRs : Hid (∀ W, Rd W (some ⟨g, 0, none⟩) bs → Rd W (some ⟨g, A, none⟩) (encV K' N' S')) := fun W h => by have h2 := h.take A B hAB hBl; rw [Nat.zero_add] at h2; rw [← HSeg.out]; exact h2
      have HLn : Hid ((encV K' N' S').length = B - A) := by unfold Hid; rw [← HSeg.out]; exact seg_length hBl hAB
      have hEl := encV_length K' N' S'
      have hcA : ¬ (cg = A) := by have h1 := HLn.out; have h2 := encV_pos K' N' S'; omega
      clear hv' hseg
      have i0 : (0 : Int) ≤ (A : Int) := by omega
      have i1 : (A : Int) ≤ (B : Int) := by omega
      have i2 : (B : Int) ≤ (cg : Int) := by omega
      have T0 : Bs w0 g bs wT := ⟨rT, BT⟩
      refine wp_region_held_drew (S := (fun W => W.cell? ⟨X, 0, none⟩ = some (.int .i64 K') ∧ W.cell? ⟨X, 1, none⟩ = some (.int .i64 N') ∧ W.cell? ⟨X, 2, none⟩ = some (.string S') ∧ Bs w0 g bs W)) (by kernel_rfl) ⟨x0, x1, x2, T0.keep ((Below.refl _ _).drew)⟩ (fun hHeld => ?_)
      refine wpAnyH_take (i := 0) (oi := Oper.mk (some 71) _ _ _ _ _) (v := ?v6) rfl (by kernel_rfl) (by kernel_rfl) (by kernel_rfl) (fun _ _ _ h => h) (Or.inl ⟨by rfl, ?y6⟩) hHeld ?r6
      case y6 => (intro W hSW; obtain ⟨q0, q1, q2, -⟩ := hSW; go_simp; try with_reducible rfl)
      simp only [Act.put, List.setIfInBounds_toArray, List.set_cons_zero, List.set_cons_succ]
      refine wpAnyH_take (i := 1) (oi := Oper.mk (some 72) _ _ _ _ _) (v := ?v7) rfl (by kernel_rfl) (by kernel_rfl) (by kernel_rfl) (fun _ _ _ h => h) (Or.inl ⟨by rfl, ?y7⟩) hHeld ?r7
      case y7 => (intro W hSW; obtain ⟨q0, q1, q2, -⟩ := hSW; go_simp; try with_reducible rfl)
      simp only [Act.put, List.setIfInBounds_toArray, List.set_cons_zero, List.set_cons_succ]
      refine wpAnyH_take (i := 2) (oi := Oper.mk (some 73) _ _ _ _ _) (v := ?v8) rfl (by kernel_rfl) (by kernel_rfl) (by kernel_rfl) (fun _ _ _ h => h) (Or.inl ⟨by rfl, ?y8⟩) hHeld ?r8
      case y8 => (intro W hSW; obtain ⟨q0, q1, q2, -⟩ := hSW; go_simp; try with_reducible rfl)
      simp only [Act.put, List.setIfInBounds_toArray, List.set_cons_zero, List.set_cons_succ]
      refine wpAnyH_take (i := 3) (oi := Oper.mk (some 74) _ _ _ _ _) (v := ?v9) rfl (by kernel_rfl) (by kernel_rfl) (by kernel_rfl) (fun _ _ _ h => h) (Or.inl ⟨by rfl, ?y9⟩) hHeld ?r9
      case y9 => (intro W hSW; obtain ⟨q0, q1, q2, -⟩ := hSW; go_simp; try with_reducible rfl)
      simp only [Act.put, List.setIfInBounds_toArray, List.set_cons_zero, List.set_cons_succ]
      refine wpAnyH_ready (rs := [4]) (by kernel_rfl) (by simp) (AllReadyH.cons (o := Oper.mk (some 75) _ _ _ _ _) rfl (fun Kk hK => ?_) AllReadyH.nil)
      go_simp
      refine (implValOk_any K' N' S' _ (by unfold maxLen; omega)).mono ?_
      rw [HVB.out]
      rintro e v1 ⟨rfl, bv1⟩
      refine hK.out _ _ (keep3P Bs.keep bv1 hHeld) (fun hHeld => ?_)
      clear hK Kk bv1
      refine wpAnyH_take (i := 5) (oi := Oper.mk (some 76) _ _ _ _ _) (v := ?v10) rfl (by kernel_rfl) (by kernel_rfl) (by kernel_rfl) (fun _ _ _ h => h) (Or.inl ⟨by rfl, ?y10⟩) hHeld ?r10
      case y10 => (intro W hSW; obtain ⟨q0, q1, q2, -⟩ := hSW; go_simp; try with_reducible rfl)
      simp only [Act.put, List.setIfInBounds_toArray, List.set_cons_zero, List.set_cons_succ]
      refine wpAnyH_take (i := 7) (oi := Oper.mk (some 78) _ _ _ _ _) (v := ?v11) rfl (by kernel_rfl) (by kernel_rfl) (by kernel_rfl) (fun _ _ _ h => h) (Or.inl ⟨by rfl, ?y11⟩) hHeld ?r11
      case y11 => (intro W hSW; obtain ⟨q0, q1, q2, -⟩ := hSW; go_simp; try with_reducible rfl)
      simp only [Act.put, List.setIfInBounds_toArray, List.set_cons_zero, List.set_cons_succ]
      refine wpAnyH_take (i := 9) (oi := Oper.mk (some 80) _ _ _ _ _) (v := ?v12) rfl (by kernel_rfl) (by kernel_rfl) (by kernel_rfl) (fun _ _ _ h => h) (Or.inl ⟨by rfl, ?y12⟩) hHeld ?r12
      case y12 => (intro W hSW; obtain ⟨q0, q1, q2, -⟩ := hSW; go_simp; try with_reducible rfl)
      simp only [Act.put, List.setIfInBounds_toArray, List.set_cons_zero, List.set_cons_succ]
      refine wpAnyH_take (i := 10) (oi := Oper.mk (some 81) _ _ _ _ _) (v := ?v13) rfl (by kernel_rfl) (by kernel_rfl) (by kernel_rfl) (fun _ _ _ h => h) (Or.inl ⟨by rfl, ?y13⟩) hHeld ?r13
      case y13 => (intro W hSW; obtain ⟨q0, q1, q2, -⟩ := hSW; go_simp; try with_reducible rfl)
      simp only [Act.put, List.setIfInBounds_toArray, List.set_cons_zero, List.set_cons_succ]
      refine wpAnyH_take (i := 11) (oi := Oper.mk (some 82) _ _ _ _ _) (v := ?v14) rfl (by kernel_rfl) (by kernel_rfl) (by kernel_rfl) (fun _ _ _ h => h) (Or.inl ⟨by rfl, ?y14⟩) hHeld ?r14
      case y14 => (intro W hSW; obtain ⟨q0, q1, q2, -⟩ := hSW; go_simp; try with_reducible rfl)
      simp only [Act.put, List.setIfInBounds_toArray, List.set_cons_zero, List.set_cons_succ]
      refine wpAnyH_take (i := 12) (oi := Oper.mk (some 83) _ _ _ _ _) (v := ?v15) rfl (by kernel_rfl) (by kernel_rfl) (by kernel_rfl) (fun _ _ _ h => h) (Or.inl ⟨by rfl, ?y15⟩) hHeld ?r15
      case y15 => (intro W hSW; obtain ⟨q0, q1, q2, -⟩ := hSW; go_simp; try with_reducible rfl)
      simp only [Act.put, List.setIfInBounds_toArray, List.set_cons_zero, List.set_cons_succ]
      refine wpAnyH_ready (rs := [6]) (by kernel_rfl) (by simp) (AllReadyH.cons (o := Oper.mk (some 77) _ _ _ _ _) rfl (fun Kk hK => ?_) AllReadyH.nil)
      go_simp
      refine hK.out _ _ (keep3P Bs.keep (below_al _ _) hHeld) (fun hHeld => ?_)
      clear hK Kk
      refine wpAnyH_ready (rs := [8]) (by kernel_rfl) (by simp) (AllReadyH.cons (o := Oper.mk (some 79) _ _ _ _ _) rfl (fun Kk hK => ?_) AllReadyH.nil)
      go_simp
      refine (putNil _ K' N' S' _ hS2).mono ?_
      rintro e v2 ⟨gp, cp, rfl, op, bv2⟩
      refine hK.out _ _ (keep3P Bs.keep bv2 hHeld) (fun hHeld => ?_)
      clear hK Kk bv2
      refine wpAnyH_ready (rs := [13]) (by kernel_rfl) (by simp) (AllReadyH.cons (o := Oper.mk (some 84) _ _ _ _ _) rfl (fun Kk hK => ?_) AllReadyH.nil)
      go_simp
      refine (sameBytes_of _ _ _ _ _ _ (encV K' N' S') _ rfl HLn.out op.rd (HRs.out _ hHeld.2.2.2.1) (by omega)).mono ?_
      rintro e v3 ⟨rfl, bv3⟩
      refine hK.out _ _ (keep3P Bs.keep bv3 hHeld) (fun hHeld => ?_)
      clear hK Kk
      refine wpAnyH_take (i := 14) (oi := Oper.mk (some 85) _ _ _ _ _) (v := ?v16) rfl (by kernel_rfl) (by kernel_rfl) (by kernel_rfl) (fun _ _ _ h => h) (Or.inl ⟨by rfl, ?y16⟩) hHeld ?r16
      case y16 => (intro W hSW; obtain ⟨q0, q1, q2, -⟩ := hSW; go_simp; try with_reducible rfl)
      simp only [Act.put, List.setIfInBounds_toArray, List.set_cons_zero, List.set_cons_succ]
      refine wpAnyH_take (i := 15) (oi := Oper.mk (some 86) _ _ _ _ _) (v := ?v17) rfl (by kernel_rfl) (by kernel_rfl) (by kernel_rfl) (fun _ _ _ h => h) (Or.inl ⟨by rfl, ?y17⟩) hHeld ?r17
      case y17 => (intro W hSW; obtain ⟨q0, q1, q2, -⟩ := hSW; go_simp; try with_reducible rfl)
      simp only [Act.put, List.setIfInBounds_toArray, List.set_cons_zero, List.set_cons_succ]
      refine wpAnyH_take (i := 16) (oi := Oper.mk (some 2) _ _ _ _ _) (v := ?v18) rfl (by kernel_rfl) (by kernel_rfl) (by kernel_rfl) (fun _ _ _ h => h) (Or.inl ⟨by rfl, ?y18⟩) hHeld ?r18
      case y18 => (intro W hSW; obtain ⟨q0, q1, q2, -⟩ := hSW; go_simp; try with_reducible rfl)
      simp only [Act.put, List.setIfInBounds_toArray, List.set_cons_zero, List.set_cons_succ]
      refine wpAnyH_done (by kernel_rfl) ?_ _
      have BE := hHeld.2.2.2.2
      go_wp2
      go_ret
      exact ⟨rfl, BE⟩
  · obtain ⟨hvb, htx⟩ := HOk.out rfl
    have HVb := hide hvb
    have HTx := hide htx
    clear hvb htx
    go_wp2_with fail
    generalize w9.alloc (.cells #[.int .i64 K', .int .i64 N', .string S'] 25) = wS at hV hX r10 B10 y0 y1 y2 ⊢
    refine (implValOk_any K N S wS (by unfold maxLen; omega)).mono ?_
    rw [HVb.out]
    rintro e wU ⟨rfl, bU⟩
    replace hV := box_step hV bU
    replace hX := box_step hX bU
    replace r10 := r10.below bU
    replace B10 : Below w0.heap.size w0 wU := B10.trans (bU.mono B10.size)
    clear bU y0 y1 y2
    obtain ⟨y0, y1, y2, -, -, -⟩ := box_cell hV
    go_wp2_with fail
    refine (implValText_any K N S wU (by unfold maxLen; omega) (HTab.out.later B10 (Nat.le_refl _))).mono ?_
    rw [HTx.out]
    rintro e wT ⟨rfl, bT⟩
    replace hX := box_step hX bT
    have rT := r10.below bT
    have BT : Below w0.heap.size w0 wT := B10.trans (bT.mono B10.size)
    clear bT y0 y1 y2 hV r10 B10
    obtain ⟨x0, x1, x2, -, -, -⟩ := box_cell hX
    have k3 : (s.toList == s.toList) = true := by simp
    go_wp2_with fail
    cases is
    · refine wp_region_held_drew (S := fun W => Below w0.heap.size w0 W) (by kernel_rfl) BT.drew (fun hHeld => ?_)
      refine wpAnyH_take (i := 0) (oi := Oper.mk (some 71) _ _ _ _ _) (v := ?v19) rfl (by kernel_rfl) (by kernel_rfl) (by kernel_rfl) (fun _ _ _ h => h) (Or.inl ⟨by rfl, ?y19⟩) hHeld ?r19
      case y19 => (intro W hSW; go_simp; try with_reducible rfl)
      simp only [Act.put, List.setIfInBounds_toArray, List.set_cons_zero, List.set_cons_succ]
      refine wpAnyH_take (i := 1) (oi := Oper.mk (some 72) _ _ _ _ _) (v := ?v20) rfl (by kernel_rfl) (by kernel_rfl) (by kernel_rfl) (fun _ _ _ h => h) (Or.inl ⟨by rfl, ?y20⟩) hHeld ?r20
      case y20 => (intro W hSW; go_simp; try with_reducible rfl)
      simp only [Act.put, List.setIfInBounds_toArray, List.set_cons_zero, List.set_cons_succ]
      refine wpAnyH_take (i := 2) (oi := Oper.mk (some 73) _ _ _ _ _) (v := ?v21) rfl (by kernel_rfl) (by kernel_rfl) (by kernel_rfl) (fun _ _ _ h => h) (Or.inl ⟨by rfl, ?y21⟩) hHeld ?r21
      case y21 => (intro W hSW; go_simp; try with_reducible rfl)
      simp only [Act.put, List.setIfInBounds_toArray, List.set_cons_zero, List.set_cons_succ]
      refine wpAnyH_take (i := 3) (oi := Oper.mk (some 74) _ _ _ _ _) (v := undef) rfl (by kernel_rfl) (by kernel_rfl) (by kernel_rfl) (fun _ _ _ h => h) (Or.inr ⟨by rfl, rfl⟩) hHeld ?_
      simp only [Act.put, List.setIfInBounds_toArray, List.set_cons_zero, List.set_cons_succ]
      refine wpAnyH_take (i := 4) (oi := Oper.mk (some 75) _ _ _ _ _) (v := undef) rfl (by kernel_rfl) (by kernel_rfl) (by kernel_rfl) (fun _ _ _ h => h) (Or.inr ⟨by rfl, rfl⟩) hHeld ?_
      simp only [Act.put, List.setIfInBounds_toArray, List.set_cons_zero, List.set_cons_succ]
      refine wpAnyH_take (i := 5) (oi := Oper.mk (some 76) _ _ _ _ _) (v := undef) rfl (by kernel_rfl) (by kernel_rfl) (by kernel_rfl) (fun _ _ _ h => h) (Or.inr ⟨by rfl, rfl⟩) hHeld ?_
      simp only [Act.put, List.setIfInBounds_toArray, List.set_cons_zero, List.set_cons_succ]
      refine wpAnyH_take (i := 6) (oi := Oper.mk (some 77) _ _ _ _ _) (v := undef) rfl (by kernel_rfl) (by kernel_rfl) (by kernel_rfl) (fun _ _ _ h => h) (Or.inr ⟨by rfl, rfl⟩) hHeld ?_
      simp only [Act.put, List.setIfInBounds_toArray, List.set_cons_zero, List.set_cons_succ]
      refine wpAnyH_take (i := 7) (oi := Oper.mk (some 78) _ _ _ _ _) (v := undef) rfl (by kernel_rfl) (by kernel_rfl) (by kernel_rfl) (fun _ _ _ h => h) (Or.inr ⟨by rfl, rfl⟩) hHeld ?_
      simp only [Act.put, List.setIfInBounds_toArray, List.set_cons_zero, List.set_cons_succ]
      refine wpAnyH_take (i := 8) (oi := Oper.mk (some 79) _ _ _ _ _) (v := undef) rfl (by kernel_rfl) (by kernel_rfl) (by kernel_rfl) (fun _ _ _ h => h) (Or.inr ⟨by rfl, rfl⟩) hHeld ?_
      simp only [Act.put, List.setIfInBounds_toArray, List.set_cons_zero, List.set_cons_succ]
      refine wpAnyH_take (i := 9) (oi := Oper.mk (some 80) _ _ _ _ _) (v := undef) rfl (by kernel_rfl) (by kernel_rfl) (by kernel_rfl) (fun _ _ _ h => h) (Or.inr ⟨by rfl, rfl⟩) hHeld ?_
      simp only [Act.put, List.setIfInBounds_toArray, List.set_cons_zero, List.set_cons_succ]
      refine wpAnyH_take (i := 10) (oi := Oper.mk (some 81) _ _ _ _ _) (v := undef) rfl (by kernel_rfl) (by kernel_rfl) (by kernel_rfl) (fun _ _ _ h => h) (Or.inr ⟨by rfl, rfl⟩) hHeld ?_
      simp only [Act.put, List.setIfInBounds_toArray, List.set_cons_zero, List.set_cons_succ]
      refine wpAnyH_take (i := 11) (oi := Oper.mk (some 82) _ _ _ _ _) (v := undef) rfl (by kernel_rfl) (by kernel_rfl) (by kernel_rfl) (fun _ _ _ h => h) (Or.inr ⟨by rfl, rfl⟩) hHeld ?_
      simp only [Act.put, List.setIfInBounds_toArray, List.set_cons_zero, List.set_cons_succ]
      refine wpAnyH_take (i := 12) (oi := Oper.mk (some 83) _ _ _ _ _) (v := undef) rfl (by kernel_rfl) (by kernel_rfl) (by kernel_rfl) (fun _ _ _ h => h) (Or.inr ⟨by rfl, rfl⟩) hHeld ?_
      simp only [Act.put, List.setIfInBounds_toArray, List.set_cons_zero, List.set_cons_succ]
      refine wpAnyH_take (i := 13) (oi := Oper.mk (some 84) _ _ _ _ _) (v := undef) rfl (by kernel_rfl) (by kernel_rfl) (by kernel_rfl) (fun _ _ _ h => h) (Or.inr ⟨by rfl, rfl⟩) hHeld ?_
      simp only [Act.put, List.setIfInBounds_toArray, List.set_cons_zero, List.set_cons_succ]
      refine wpAnyH_take (i := 14) (oi := Oper.mk (some 85) _ _ _ _ _) (v := undef) rfl (by kernel_rfl) (by kernel_rfl) (by kernel_rfl) (fun _ _ _ h => h) (Or.inr ⟨by rfl, rfl⟩) hHeld ?_
      simp only [Act.put, List.setIfInBounds_toArray, List.set_cons_zero, List.set_cons_succ]
      refine wpAnyH_take (i := 15) (oi := Oper.mk (some 86) _ _ _ _ _) (v := ?v22) rfl (by kernel_rfl) (by kernel_rfl) (by kernel_rfl) (fun _ _ _ h => h) (Or.inl ⟨by rfl, ?y22⟩) hHeld ?r22
      case y22 => (intro W hSW; go_simp; try with_reducible rfl)
      simp only [Act.put, List.setIfInBounds_toArray, List.set_cons_zero, List.set_cons_succ]
      refine wpAnyH_take (i := 16) (oi := Oper.mk (some 2) _ _ _ _ _) (v := ?v23) rfl (by kernel_rfl) (by kernel_rfl) (by kernel_rfl) (fun _ _ _ h => h) (Or.inl ⟨by rfl, ?y23⟩) hHeld ?r23
      case y23 => (intro W hSW; go_simp; try with_reducible rfl)
      simp only [Act.put, List.setIfInBounds_toArray, List.set_cons_zero, List.set_cons_succ]
      refine wpAnyH_done (by kernel_rfl) ?_ _
      go_wp2
      go_ret
      exact ⟨rfl, hHeld⟩
    · obtain ⟨hv', A, B, rfl, rfl, hAB, hBl, hseg⟩ := val_canon HG.out
      have hS' := valB_small hv'
      have hS2 : S'.size ≤ 1048580 := by omega
      have HVB := hide hv'
      have HSeg := hide hseg
      have HRs : Hid (∀ W, Rd W (some ⟨g, 0, none⟩) bs → Rd W (some ⟨g, A, none⟩) (encV K' N' S')) := fun W h => by have h2 := h.take A B hAB hBl; rw [Nat.zero_add] at h2; rw [← HSeg.out]; exact h2
      have HLn : Hid ((encV K' N' S').length = B - A) := by unfold Hid; rw [← HSeg.out]; exact seg_length hBl hAB
      have hEl := encV_length K' N' S'
      have hcA : ¬ (cg = A) := by have h1 := HLn.out; have h2 := encV_pos K' N' S'; omega
      clear hv' hseg
      have i0 : (0 : Int) ≤ (A : Int) := by omega
      have i1 : (A : Int) ≤ (B : Int) := by omega
      have i2 : (B : Int) ≤ (cg : Int) := by omega
      have T0 : Bs w0 g bs wT := ⟨rT, BT⟩
      refine wp_region_held_drew (S := (fun W => W.cell? ⟨X, 0, none⟩ = some (.int .i64 K') ∧ W.cell? ⟨X, 1, none⟩ = some (.int .i64 N') ∧ W.cell? ⟨X, 2, none⟩ = some (.string S') ∧ Bs w0 g bs W)) (by kernel_rfl) ⟨x0, x1, x2, T0.keep ((Below.refl _ _).drew)⟩ (fun hHeld => ?_)
      refine wpAnyH_take (i := 0) (oi := Oper.mk (some 71) _ _ _ _ _) (v := ?v24) rfl (by kernel_rfl) (by kernel_rfl) (by kernel_rfl) (fun _ _ _ h => h) (Or.inl ⟨by rfl, ?y24⟩) hHeld ?r24
      case y24 => (intro W hSW; obtain ⟨q0, q1, q2, -⟩ := hSW; go_simp; try with_reducible rfl)
      simp only [Act.put, List.setIfInBounds_toArray, List.set_cons_zero, List.set_cons_succ]
      refine wpAnyH_take (i := 1) (oi := Oper.mk (some 72) _ _ _ _ _) (v := ?v25) rfl (by kernel_rfl) (by kernel_rfl) (by kernel_rfl) (fun _ _ _ h => h) (Or.inl ⟨by rfl, ?y25⟩) hHeld ?r25
      case y25 => (intro W hSW; obtain ⟨q0, q1, q2, -⟩ := hSW; go_simp; try with_reducible rfl)
      simp only [Act.put, List.setIfInBounds_toArray, List.set_cons_zero, List.set_cons_succ]
      refine wpAnyH_take (i := 2) (oi := Oper.mk (some 73) _ _ _ _ _) (v := ?v26) rfl (by kernel_rfl) (by kernel_rfl) (by kernel_rfl) (fun _ _ _ h => h) (Or.inl ⟨by rfl, ?y26⟩) hHeld ?r26
      case y26 => (intro W hSW; obtain ⟨q0, q1, q2, -⟩ := hSW; go_simp; try with_reducible rfl)
      simp only [Act.put, List.setIfInBounds_toArray, List.set_cons_zero, List.set_cons_succ]
      refine wpAnyH_take (i := 3) (oi := Oper.mk (some 74) _ _ _ _ _) (v := ?v27) rfl (by kernel_rfl) (by kernel_rfl) (by kernel_rfl) (fun _ _ _ h => h) (Or.inl ⟨by rfl, ?y27⟩) hHeld ?r27
      case y27 => (intro W hSW; obtain ⟨q0, q1, q2, -⟩ := hSW; go_simp; try with_reducible rfl)
      simp only [Act.put, List.setIfInBounds_toArray, List.set_cons_zero, List.set_cons_succ]
      refine wpAnyH_ready (rs := [4]) (by kernel_rfl) (by simp) (AllReadyH.cons (o := Oper.mk (some 75) _ _ _ _ _) rfl (fun Kk hK => ?_) AllReadyH.nil)
      go_simp
      refine (implValOk_any K' N' S' _ (by unfold maxLen; omega)).mono ?_
      rw [HVB.out]
      rintro e v1 ⟨rfl, bv1⟩
      refine hK.out _ _ (keep3P Bs.keep bv1 hHeld) (fun hHeld => ?_)
      clear hK Kk bv1
      refine wpAnyH_take (i := 5) (oi := Oper.mk (some 76) _ _ _ _ _) (v := ?v28) rfl (by kernel_rfl) (by kernel_rfl) (by kernel_rfl) (fun _ _ _ h => h) (Or.inl ⟨by rfl, ?y28⟩) hHeld ?r28
      case y28 => (intro W hSW; obtain ⟨q0, q1, q2, -⟩ := hSW; go_simp; try with_reducible rfl)
      simp only [Act.put, List.setIfInBounds_toArray, List.set_cons_zero, List.set_cons_succ]
      refine wpAnyH_take (i := 7) (oi := Oper.mk (some 78) _ _ _ _ _) (v := ?v29) rfl (by kernel_rfl) (by kernel_rfl) (by kernel_rfl) (fun _ _ _ h => h) (Or.inl ⟨by rfl, ?y29⟩) hHeld ?r29
      case y29 => (intro W hSW; obtain ⟨q0, q1, q2, -⟩ := hSW; go_simp; try with_reducible rfl)
      simp only [Act.put, List.setIfInBounds_toArray, List.set_cons_zero, List.set_cons_succ]
      refine wpAnyH_take (i := 9) (oi := Oper.mk (some 80) _ _ _ _ _) (v := ?v30) rfl (by kernel_rfl) (by kernel_rfl) (by kernel_rfl) (fun _ _ _ h => h) (Or.inl ⟨by rfl, ?y30⟩) hHeld ?r30
      case y30 => (intro W hSW; obtain ⟨q0, q1, q2, -⟩ := hSW; go_simp; try with_reducible rfl)
      simp only [Act.put, List.setIfInBounds_toArray, List.set_cons_zero, List.set_cons_succ]
      refine wpAnyH_take (i := 10) (oi := Oper.mk (some 81) _ _ _ _ _) (v := ?v31) rfl (by kernel_rfl) (by kernel_rfl) (by kernel_rfl) (fun _ _ _ h => h) (Or.inl ⟨by rfl, ?y31⟩) hHeld ?r31
      case y31 => (intro W hSW; obtain ⟨q0, q1, q2, -⟩ := hSW; go_simp; try with_reducible rfl)
      simp only [Act.put, List.setIfInBounds_toArray, List.set_cons_zero, List.set_cons_succ]
      refine wpAnyH_take (i := 11) (oi := Oper.mk (some 82) _ _ _ _ _) (v := ?v32) rfl (by kernel_rfl) (by kernel_rfl) (by kernel_rfl) (fun _ _ _ h => h) (Or.inl ⟨by rfl, ?y32⟩) hHeld ?r32
      case y32 => (intro W hSW; obtain ⟨q0, q1, q2, -⟩ := hSW; go_simp; try with_reducible rfl)
      simp only [Act.put, List.setIfInBounds_toArray, List.set_cons_zero, List.set_cons_succ]
      refine wpAnyH_take (i := 12) (oi := Oper.mk (some 83) _ _ _ _ _) (v := ?v33) rfl (by kernel_rfl) (by kernel_rfl) (by kernel_rfl) (fun _ _ _ h => h) (Or.inl ⟨by rfl, ?y33⟩) hHeld ?r33
      case y33 => (intro W hSW; obtain ⟨q0, q1, q2, -⟩ := hSW; go_simp; try with_reducible rfl)
      simp only [Act.put, List.setIfInBounds_toArray, List.set_cons_zero, List.set_cons_succ]
      refine wpAnyH_ready (rs := [6]) (by kernel_rfl) (by simp) (AllReadyH.cons (o := Oper.mk (some 77) _ _ _ _ _) rfl (fun Kk hK => ?_) AllReadyH.nil)
      go_simp
      refine hK.out _ _ (keep3P Bs.keep (below_al _ _) hHeld) (fun hHeld => ?_)
      clear hK Kk
      refine wpAnyH_ready (rs := [8]) (by kernel_rfl) (by simp) (AllReadyH.cons (o := Oper.mk (some 79) _ _ _ _ _) rfl (fun Kk hK => ?_) AllReadyH.nil)
      go_simp
      refine (putNil _ K' N' S' _ hS2).mono ?_
      rintro e v2 ⟨gp, cp, rfl, op, bv2⟩
      refine hK.out _ _ (keep3P Bs.keep bv2 hHeld) (fun hHeld => ?_)
      clear hK Kk bv2
      refine wpAnyH_ready (rs := [13]) (by kernel_rfl) (by simp) (AllReadyH.cons (o := Oper.mk (some 84) _ _ _ _ _) rfl (fun Kk hK => ?_) AllReadyH.nil)
      go_simp
      refine (sameBytes_of _ _ _ _ _ _ (encV K' N' S') _ rfl HLn.out op.rd (HRs.out _ hHeld.2.2.2.1) (by omega)).mono ?_
      rintro e v3 ⟨rfl, bv3⟩
      refine hK.out _ _ (keep3P Bs.keep bv3 hHeld) (fun hHeld => ?_)
      clear hK Kk
      refine wpAnyH_take (i := 14) (oi := Oper.mk (some 85) _ _ _ _ _) (v := ?v34) rfl (by kernel_rfl) (by kernel_rfl) (by kernel_rfl) (fun _ _ _ h => h) (Or.inl ⟨by rfl, ?y34⟩) hHeld ?r34
      case y34 => (intro W hSW; obtain ⟨q0, q1, q2, -⟩ := hSW; go_simp; try with_reducible rfl)
      simp only [Act.put, List.setIfInBounds_toArray, List.set_cons_zero, List.set_cons_succ]
      refine wpAnyH_take (i := 15) (oi := Oper.mk (some 86) _ _ _ _ _) (v := ?v35) rfl (by kernel_rfl) (by kernel_rfl) (by kernel_rfl) (fun _ _ _ h => h) (Or.inl ⟨by rfl, ?y35⟩) hHeld ?r35
      case y35 => (intro W hSW; obtain ⟨q0, q1, q2, -⟩ := hSW; go_simp; try with_reducible rfl)
      simp only [Act.put, List.setIfInBounds_toArray, List.set_cons_zero, List.set_cons_succ]
      refine wpAnyH_take (i := 16) (oi := Oper.mk (some 2) _ _ _ _ _) (v := ?v36) rfl (by kernel_rfl) (by kernel_rfl) (by kernel_rfl) (fun _ _ _ h => h) (Or.inl ⟨by rfl, ?y36⟩) hHeld ?r36
      case y36 => (intro W hSW; obtain ⟨q0, q1, q2, -⟩ := hSW; go_simp; try with_reducible rfl)
      simp only [Act.put, List.setIfInBounds_toArray, List.set_cons_zero, List.set_cons_succ]
      refine wpAnyH_done (by kernel_rfl) ?_ _
      have BE := hHeld.2.2.2.2
      go_wp2
      go_ret
      exact ⟨rfl, BE⟩

theorem walk (a0 : Option Addr) (len0 cap0 : Nat) (z0 : List Int) (w : World) (w0 : IsRow .u8 w a0 len0 cap0 z0) (ht : Tab w) (he : Errs w) :
    Calls Tryd.prog 4 #[.slice a0 len0 cap0] w fun e w' => e = .returned (.bool true) ∧ Below w.heap.size w w' := by
  obtain ⟨bs, hl, hr⟩ := rd_row w0
  have hm : len0 ≤ maxLen := isRow_len w0
  subst hl
  exact law a0 cap0 bs w hr hm ht he

theorem own : ownKnob Tryd.prog.godebug = none := by kernel_rfl
theorem laidOut : laidOutB Tryd.prog = true := by kernel_rfl

theorem door_met (os : Os) (args : Array Value) : laidMetH Tryd.prog Rows.fnValsReadRow.laid ((World.doorLaid Tryd.prog 400 os).forCall (fun _ _ => 0) ⟨#[], args, []⟩).memory :=
  laidMetH_of_parts3 (fuel := 8) (laidMet_of_run' 8 (by kernel_rfl) (by kernel_rfl)) (by kernel_rfl) (by kernel_rfl)
theorem laid_plain {W : World} (h : laidMetH Tryd.prog Rows.fnValsReadRow.laid W) : laidMet Tryd.prog Rows.fnValsReadRow.laid W := by
  rw [MakeChecks.laidMetH_plain _ _ _ (by kernel_rfl)] at h
  exact h

set_option maxRecDepth 100000 in
theorem lifted (os : Os) (started : os.Started) (H : Type) (enc : TypeId × Value → H) :
    ReturnsInHanded {} Tryd.checked os 4 .any (fun w args => (Rows.fnValsReadSpec.pre enc Tryd.prog Tryd.f4 [] false w args ∧ laidMetH Tryd.prog Rows.fnValsReadRow.laid w) ∧ sizedMet enc Tryd.prog Tryd.f4 (OpenSpec.ofChange Rows.fnValsReadSpec) false w args)
      (Rows.fnValsReadSpec.post enc Tryd.prog Tryd.f4 false true false false) := by
  refine returnsInHanded_of_change_and (C := Tryd.checked) (X := fun w _ => laidMetH Tryd.prog Rows.fnValsReadRow.laid w) (fun _ _ _ hh h => h.of_heap hh) own started (by kernel_rfl) Tryd.func4
    (ChangeSpec.witness_shaped (enc := enc) (C := Tryd.checked) (os := os) (X := fun w _ => laidMetH Tryd.prog Rows.fnValsReadRow.laid w) false (World.doorLaid Tryd.prog 400 os) #[.slice none 0 0] 8 rfl (World.shaped_of_RefB (by kernel_rfl) (by kernel_rfl)) (by kernel_rfl) (by kernel_rfl) (by kernel_rfl) (door_met os _)) ?_
  intro W base args ds gs before hval0 hW _ _ hL _
  have hval : ∀ (j : Nat) t v, Tryd.f4.params[j]? = some t → args[j]? = some v → Value.okWide Tryd.prog W .any base t v := hval0
  have hW' := hW
  obtain ⟨p, q, hA0, hV, rfl, hfz, hnd⟩ := hW
  have hA : DataW.TrodAll enc Tryd.prog W 0 (fun _ => true) true Tryd.f4.params.toList args.toList ds p := hA0
  rw [Tryd.params4] at hA hval
  obtain ⟨v0, vs0, d0, ds0, p0, q0, hargs, rfl, rfl, h0, r0⟩ := trodAll_cons hA
  obtain ⟨rfl, rfl, rfl⟩ := trodAll_nil r0
  obtain rfl : args = #[v0] := by cases args; simp_all
  obtain ⟨rfl, rfl⟩ := trodVars_none hV
  obtain ⟨a0, len0, cap0, rfl⟩ := okWide_slice Tryd.underlying22 (hval 0 22 v0 rfl rfl)
  have k0 := h0
  have lt0 : ∀ x ∈ p0, x.block < W.heap.size := by obtain ⟨m, hm⟩ := k0; exact DataW.trod_lt m _ _ _ hm
  obtain ⟨z0, w0⟩ : ∃ zs, IsRow .u8 W a0 len0 cap0 zs := by
    obtain ⟨fuel, hf⟩ := h0
    rcases open_ints Tryd.underlying22 Tryd.underlying5 (by kernel_rfl) hf with ⟨hcs, _⟩ | ⟨x, l, c, zs, hcs, _, hl, hm, hz, _, hcell, hwz⟩
    · simp [Value.cells] at hcs
      obtain ⟨rfl, rfl, rfl⟩ := hcs
      exact ⟨[], .inl ⟨rfl, rfl, rfl, rfl⟩⟩
    · simp [Value.cells] at hcs
      obtain ⟨rfl, rfl, rfl⟩ := hcs
      exact ⟨zs, .inr ⟨_, rfl, hl, hm, by simpa using hz, hcell, hwz⟩⟩
  clear hA0 hval0
  refine (walk a0 len0 cap0 z0 W w0 (tab_of (laid_plain hL)) (errs_of (laid_plain hL))).mono fun e W' ⟨he, bel⟩ => ?_
  subst he
  exact ⟨_, rfl, _, _, _, [], _, [], hW', trodAll_mk1 (shut_bool Tryd.underlying4 _), (trodAll_cons_mk (Below.trod laidOut (by kernel_rfl) (of_decide_eq_true (by kernel_rfl)) k0 bel lt0) trodAll_mk0), rfl, bel.frame _, fun h => by cases h⟩

set_option maxRecDepth 100000 in
theorem over : Rows.fnValsReadRow.holds Tryd.pinned (OpenSpec.ofChange Rows.fnValsReadSpec) :=
  OpenClaim.holds_of_wide 4 Tryd.f4 rfl rfl rfl rfl rfl rfl rfl ⟨rfl, rfl, rfl, rfl, rfl⟩ rfl rfl rfl rfl rfl (by kernel_rfl) Tryd.func4 (by kernel_rfl)
    (of_decide_eq_true (by kernel_rfl)) (by unfold Func.isWrapper; first | (rw [if_pos (by decide +kernel)]; kernel_rfl) | (rw [if_neg (by decide +kernel)]; exact ⟨rfl, rfl⟩))
    (fun os started H enc _ => lifted os started H enc)

set_option maxRecDepth 100000 in
theorem card_over : Rows.FnValsReadCardSaid :=
  Claim7.holds_tied_plain_at .later [] [.data, .data, .data, .sentinel, .sentinel] true Rows.fnValsReadCard.stood.harness true
    over (fun _ h => by cases h) (by kernel_rfl) (fun _ h => by cases h) fnValsRead_row_tie rfl ⟨rfl, rfl⟩ (by kernel_rfl) rfl
    (fun f fn hf hfn => by
      obtain rfl : f = 4 := Option.some.inj ((show Tryd.prog.funcNamed "loop.example/g00282/laws.FnValsRead" = some 4 by kernel_rfl).symm.trans hf) |>.symm
      obtain rfl : fn = Tryd.f4 := (Option.some.inj (Tryd.func4.symm.trans hfn)).symm
      exact ⟨by kernel_rfl, fun j t ht => by
        rw [Tryd.params4] at ht
        have hm : t ∈ [22] := by simpa using Array.mem_of_getElem? ht
        have hall : ([22].all fun u => !Tryd.prog.wantsStandIn u) = true := by kernel_rfl
        exact (show Tryd.prog.wantsStandIn t = false by simpa using List.all_eq_true.1 hall t hm)⟩)
    (by kernel_rfl)
end Go.Proofs.YtofdbnkeddcdjaaDoor.CardValsRead
namespace Go.Proofs.YtofdbnkeddcdjaaDoor
theorem fnValsReadCard_holds : Rows.FnValsReadCardSaid := CardValsRead.card_over
#print axioms fnValsReadCard_holds
end Go.Proofs.YtofdbnkeddcdjaaDoor
