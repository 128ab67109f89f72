/-
  Proved: for every row of bytes, the law on sums answers true (what is added to a drawn value and taken away again leaves it as it was, where it may be; else nothing is answered, as by the model), and the row reads as it did. No condition.
-/
import Derived.Test.YtofdbnkeddcdjaaDrawAdd
import Derived.Test.YtofdbnkeddcdjaaSumI
import Derived.Test.YtofdbnkeddcdjaaSumS
import Derived.Laws.StructEq
import Derived.ProofKit
import Derived.OpenShut
import Derived.ShutString
import Derived.ChangeOld
import Derived.Below
namespace Go.Proofs.Ytofdbnkeddcdjaa.LawAdded
open Go.ChangeShapes Go.WideShapes Go.ChangeAt Go.RowKit
open Go.ChangeMaps (open_string shut_string)
set_option linter.unusedVariables false

set_option maxHeartbeats 400000 in
theorem big_any (a : Option Addr) (len cap : Nat) (w : World) (h : len ≤ 9223372036854775807) :
    Calls Try.prog 7 #[.slice a len cap] w fun e w' => e = .returned (.bool (decide ((1048576 : Int) < (len : Int)))) ∧ w' = w := by
  go_enter Try.func7, Try.ntmps7
  go_wp2
  go_ret
  exact ⟨rfl, rfl⟩

theorem isNum_open {K N : Int} {S : ByteArray} (h : isNum K N S = true) : K = 1 ∧ S = ⟨#[]⟩ ∧ -1000000000 ≤ N ∧ N ≤ 1000000000 := by
  have hr := numN_in K N S
  rw [numN_of h] at hr
  simp only [isNum, Bool.and_eq_true, beq_iff_eq] at h
  obtain ⟨rfl, h2⟩ := h
  rw [valB_num S hr] at h2
  exact ⟨rfl, empty_of_size (by simpa using h2), hr⟩
theorem isNum_mk {N : Int} (h : -1000000000 ≤ N ∧ N ≤ 1000000000) : isNum 1 N ⟨#[]⟩ = true := by
  have : (ByteArray.mk #[]).size = 0 := rfl
  simp [isNum, valB_num _ h, this]
theorem sumV_yes {N N' n : Int} (h : -1000000000 ≤ N ∧ N ≤ 1000000000) (h' : -1000000000 ≤ N' ∧ N' ≤ 1000000000) (hn : -1000000000 ≤ n ∧ n ≤ 1000000000) :
    sumV 1 N ⟨#[]⟩ 1 N' ⟨#[]⟩ n = .tuple #[.agg #[.int .i64 1, .int .i64 n, .string ⟨#[]⟩], .bool true] := by
  unfold sumV
  rw [isNum_mk h, isNum_mk h', inB_t hn]
  rfl
theorem sumV_no {K N K' N' n : Int} {S S' : ByteArray} (h : (isNum K N S && isNum K' N' S' && inB n (-1000000000) 1000000000) = false) :
    sumV K N S K' N' S' n = .tuple #[.agg #[.int .i64 0, .int .i64 0, .string ⟨#[]⟩], .bool false] := by
  unfold sumV
  rw [h]
  rfl

set_option maxRecDepth 100000 in
set_option maxHeartbeats 3200000 in
theorem law (a : Option Addr) (cap : Nat) (code : List UInt8) (w : World) (hr : Rd w a code) (hm : code.length ≤ maxLen) :
    Calls Try.prog 3 #[.slice a code.length cap] w fun e w' => e = .returned (.bool true) ∧ Below w.heap.size w w' := by
  unfold maxLen at hm
  by_cases hb : 1048576 < code.length
  · have hd : decide ((1048576 : Int) < (code.length : Int)) = true := by simp; omega
    go_enter Try.func3, Try.ntmps3
    go_wp2_with (go_at_call 7; refine (big_any _ _ _ _ (by omega)).mono ?_; rintro e w' ⟨rfl, rfl⟩)
    go_ret
    exact ⟨rfl, Below.refl _ _⟩
  · have hd : decide ((1048576 : Int) < (code.length : Int)) = false := by simp; omega
    go_enter Try.func3, Try.ntmps3
    go_wp2_with fail
    refine (big_any _ _ _ _ (by omega)).mono ?_
    rintro e w' ⟨rfl, rfl⟩
    go_wp2_with fail
    refine (drawAddVals_any a cap code w' hr (by omega)).mono ?_
    rintro e w1 ⟨K, N, S, K', N', S', rfl, hS, hS', B1⟩
    clear hd
    have hs : S.size ≤ maxLen := by unfold maxLen; omega
    have hs' : S'.size ≤ maxLen := by unfold maxLen; omega
    have z1 := B1.size
    cases hok : (isNum K N S && isNum K' N' S' && inB (numN K N S + numN K' N' S') (-1000000000) 1000000000)
    · have HT := hide (sumV_no hok)
      clear hok
      go_wp2_with fail
      refine (implAddVals_any K N S K' N' S' _ hs hs').mono ?_
      rw [HT.out]
      rintro e w2 ⟨rfl, hb2⟩
      have HA := hide (box_below (box_old (box_new w1 (.int .i64 K) (.int .i64 N) (.string S) 25) (by simp) (.cells #[.int .i64 K', .int .i64 N', .string S'] 25)) hb2 (by simp; omega))
      have HB := hide (box_below (box_new (w1.alloc (.cells #[.int .i64 K, .int .i64 N, .string S] 25)) (.int .i64 K') (.int .i64 N') (.string S') 25) hb2 (by simp))
      have B2 : Below w'.heap.size w' w2 := ((B1.alloc B1.size _).alloc (by simp; omega) _).trans (hb2.mono (by simp; omega))
      have z2 : w1.heap.size + 2 ≤ w2.heap.size := by have := hb2.size; simp at this; omega
      simp only [World.size_alloc] at HA HB
      clear hb2
      obtain ⟨a0, a1, a2, -, -, -⟩ := box_cell HA.out
      obtain ⟨b0, b1, b2, -, -, -⟩ := box_cell HB.out
      obtain ⟨a3, a4, a5, -, -, -⟩ := box_cell (box_alloc HA.out (.cells #[.int .i64 0, .int .i64 0, .string ⟨#[]⟩] 25))
      obtain ⟨b3, b4, b5, -, -, -⟩ := box_cell (box_alloc HB.out (.cells #[.int .i64 0, .int .i64 0, .string ⟨#[]⟩] 25))
      go_wp2_with fail
      refine (specAddVals_any K N S K' N' S' _ hs hs').mono ?_
      rw [HT.out]
      rintro e w3 ⟨rfl, hb3⟩
      have HX := hide (box_below (box_new w2 (.int .i64 0) (.int .i64 0) (.string ⟨#[]⟩) 25) hb3 (by simp))
      have B3 : Below w'.heap.size w' w3 := (B2.alloc (by omega) _).trans (hb3.mono (by simp; omega))
      clear hb3 a0 a1 a2 b0 b1 b2 a3 a4 a5 b3 b4 b5 HA HB B2
      obtain ⟨a0, a1, a2, -, -, -⟩ := box_cell HX.out
      obtain ⟨a3, a4, a5, -, -, -⟩ := box_cell (box_alloc HX.out (.cells #[.int .i64 0, .int .i64 0, .string ⟨#[]⟩] 25))
      clear HX
      have z3 := B3.size
      go_wp2
      go_ret
      exact ⟨rfl, by go_grown⟩
    · simp only [Bool.and_eq_true] at hok
      obtain ⟨⟨h1, h2⟩, h3⟩ := hok
      rw [numN_of h1, numN_of h2] at h3
      have hn : -1000000000 ≤ N + N' ∧ N + N' ≤ 1000000000 := by simpa [inB] using h3
      obtain ⟨rfl, rfl, hN⟩ := isNum_open h1
      obtain ⟨rfl, rfl, hN'⟩ := isNum_open h2
      have HT : Hid (sumV 1 N ⟨#[]⟩ 1 N' ⟨#[]⟩ (numN 1 N ⟨#[]⟩ + numN 1 N' ⟨#[]⟩) = .tuple #[.agg #[.int .i64 1, .int .i64 (N + N'), .string ⟨#[]⟩], .bool true]) := by unfold Hid; rw [numN_of h1, numN_of h2]; exact sumV_yes hN hN' hn
      have HS : Hid (sumV 1 (N + N') ⟨#[]⟩ 1 N' ⟨#[]⟩ (numN 1 (N + N') ⟨#[]⟩ - numN 1 N' ⟨#[]⟩) = .tuple #[.agg #[.int .i64 1, .int .i64 N, .string ⟨#[]⟩], .bool true]) := by
        unfold Hid; rw [numN_of (isNum_mk hn), numN_of h2, show N + N' - N' = N by omega]; exact sumV_yes hn hN' hN
      have HZ : Hid (sumV 1 N' ⟨#[]⟩ 1 N ⟨#[]⟩ (numN 1 N' ⟨#[]⟩ + numN 1 N ⟨#[]⟩) = .tuple #[.agg #[.int .i64 1, .int .i64 (N + N'), .string ⟨#[]⟩], .bool true]) := by
        unfold Hid; rw [numN_of h1, numN_of h2, Int.add_comm N' N]; exact sumV_yes hN' hN hn
      clear h1 h2 h3 hn hN hN' hS hS'
      go_wp2_with fail
      refine (implAddVals_any 1 N ⟨#[]⟩ 1 N' ⟨#[]⟩ _ hs hs').mono ?_
      rw [HT.out]
      rintro e w2 ⟨rfl, hb2⟩
      have HA := hide (box_below (box_old (box_new w1 (.int .i64 1) (.int .i64 N) (.string ⟨#[]⟩) 25) (by simp) (.cells #[.int .i64 1, .int .i64 N', .string ⟨#[]⟩] 25)) hb2 (by simp; omega))
      have HB := hide (box_below (box_new (w1.alloc (.cells #[.int .i64 1, .int .i64 N, .string ⟨#[]⟩] 25)) (.int .i64 1) (.int .i64 N') (.string ⟨#[]⟩) 25) hb2 (by simp))
      have B2 : Below w'.heap.size w' w2 := ((B1.alloc B1.size _).alloc (by simp; omega) _).trans (hb2.mono (by simp; omega))
      have z2 : w1.heap.size + 2 ≤ w2.heap.size := by have := hb2.size; simp at this; omega
      simp only [World.size_alloc] at HA HB
      clear hb2
      generalize N + N' = M at HT HS HZ ⊢
      obtain ⟨a0, a1, a2, -, -, -⟩ := box_cell HA.out
      obtain ⟨b0, b1, b2, -, -, -⟩ := box_cell HB.out
      obtain ⟨a3, a4, a5, -, -, -⟩ := box_cell (box_alloc HA.out (.cells #[.int .i64 1, .int .i64 M, .string ⟨#[]⟩] 25))
      obtain ⟨b3, b4, b5, -, -, -⟩ := box_cell (box_alloc HB.out (.cells #[.int .i64 1, .int .i64 M, .string ⟨#[]⟩] 25))
      go_wp2_with fail
      refine (specAddVals_any 1 N ⟨#[]⟩ 1 N' ⟨#[]⟩ _ hs hs').mono ?_
      rw [HT.out]
      rintro e w3 ⟨rfl, hb3⟩
      have HA3 := hide (box_below (box_alloc HA.out _) hb3 (by simp; omega))
      have HB3 := hide (box_below (box_alloc HB.out _) hb3 (by simp; omega))
      have HX := hide (box_below (box_new w2 (.int .i64 1) (.int .i64 M) (.string ⟨#[]⟩) 25) hb3 (by simp))
      have B3 : Below w'.heap.size w' w3 := (B2.alloc (by omega) _).trans (hb3.mono (by simp; omega))
      have z3 : w2.heap.size + 1 ≤ w3.heap.size := by have := hb3.size; simp at this; omega
      clear hb3 a0 a1 a2 b0 b1 b2 a3 a4 a5 b3 b4 b5 HA HB B2
      obtain ⟨b0, b1, b2, -, -, -⟩ := box_cell HB3.out
      obtain ⟨x0, x1, x2, -, -, -⟩ := box_cell HX.out
      obtain ⟨b3, b4, b5, -, -, -⟩ := box_cell (box_alloc HB3.out (.cells #[.int .i64 1, .int .i64 M, .string ⟨#[]⟩] 25))
      obtain ⟨x3, x4, x5, -, -, -⟩ := box_cell (box_alloc HX.out (.cells #[.int .i64 1, .int .i64 M, .string ⟨#[]⟩] 25))
      go_wp2_with fail
      refine (implSubVals_any 1 M ⟨#[]⟩ 1 N' ⟨#[]⟩ _ hs hs').mono ?_
      rw [HS.out]
      rintro e w4 ⟨rfl, hb4⟩
      have HA4 := hide (box_below (box_alloc HA3.out _) hb4 (by simp; omega))
      have HB4 := hide (box_below (box_alloc HB3.out _) hb4 (by simp; omega))
      have HX4 := hide (box_below (box_alloc HX.out _) hb4 (by simp; omega))
      have B4 : Below w'.heap.size w' w4 := (B3.alloc (by omega) _).trans (hb4.mono (by simp; omega))
      have z4 : w3.heap.size + 1 ≤ w4.heap.size := by have := hb4.size; simp at this; omega
      clear hb4 x0 x1 x2 b0 b1 b2 b3 b4 b5 x3 x4 x5 HA3 HB3 HX B3
      obtain ⟨a0, a1, a2, -, -, -⟩ := box_cell HA4.out
      obtain ⟨b0, b1, b2, -, -, -⟩ := box_cell HB4.out
      obtain ⟨a3, a4, a5, -, -, -⟩ := box_cell (box_alloc HA4.out (.cells #[.int .i64 1, .int .i64 N, .string ⟨#[]⟩] 25))
      obtain ⟨b3, b4, b5, -, -, -⟩ := box_cell (box_alloc HB4.out (.cells #[.int .i64 1, .int .i64 N, .string ⟨#[]⟩] 25))
      go_wp2_with fail
      refine (implAddVals_any 1 N' ⟨#[]⟩ 1 N ⟨#[]⟩ _ hs' hs).mono ?_
      rw [HZ.out]
      rintro e w5 ⟨rfl, hb5⟩
      have HA5 := hide (box_below (box_alloc HA4.out _) hb5 (by simp; omega))
      have HX5 := hide (box_below (box_alloc HX4.out _) hb5 (by simp; omega))
      have HY5 := hide (box_below (box_new w4 (.int .i64 1) (.int .i64 N) (.string ⟨#[]⟩) 25) hb5 (by simp))
      have B5 : Below w'.heap.size w' w5 := (B4.alloc (by omega) _).trans (hb5.mono (by simp; omega))
      have z5 : w'.heap.size ≤ w5.heap.size := B5.size
      clear hb5 b0 b1 b2 a0 a1 a2 a3 a4 a5 b3 b4 b5 HA4 HB4 HX4 B4
      obtain ⟨a0, a1, a2, -, -, -⟩ := box_cell HA5.out
      obtain ⟨x0, x1, x2, -, -, -⟩ := box_cell HX5.out
      obtain ⟨y0, y1, y2, -, -, -⟩ := box_cell HY5.out
      obtain ⟨a3, a4, a5, -, -, -⟩ := box_cell (box_alloc HA5.out (.cells #[.int .i64 1, .int .i64 M, .string ⟨#[]⟩] 25))
      obtain ⟨x3, x4, x5, -, -, -⟩ := box_cell (box_alloc HX5.out (.cells #[.int .i64 1, .int .i64 M, .string ⟨#[]⟩] 25))
      obtain ⟨y3, y4, y5, -, -, -⟩ := box_cell (box_alloc HY5.out (.cells #[.int .i64 1, .int .i64 M, .string ⟨#[]⟩] 25))
      have k1 : (N == N) = true := by simp
      have k2 : (M == M) = true := by simp
      go_wp2
      go_ret
      exact ⟨rfl, by go_grown⟩

theorem walk (a0 : Option Addr) (len0 cap0 : Nat) (z0 : List Int) (w : World) (w0 : IsRow .u8 w a0 len0 cap0 z0) :
    Calls Try.prog 3 #[.slice a0 len0 cap0] w fun e w' => e = .returned (.bool true) ∧ Below w.heap.size w w' := by
  obtain ⟨bs, hl, hr⟩ := rd_row w0
  have hm : len0 ≤ maxLen := isRow_len w0
  subst hl
  exact law a0 cap0 bs w hr hm

theorem own : ownKnob Try.prog.godebug = none := by kernel_rfl
theorem laidOut : laidOutB Try.prog = true := by kernel_rfl

set_option maxRecDepth 100000 in
theorem lifted (os : Os) (started : os.Started) (H : Type) (enc : TypeId × Value → H) :
    ReturnsInHanded {} Try.checked os 3 .any (Rows.fnAddedSpec.pre6 enc Try.prog Try.f3 Rows.fnAddedRow.domain false) (Rows.fnAddedSpec.post enc Try.prog Try.f3 false true false false) := by
  refine returnsInHanded_of_change (C := Try.checked) own started (by kernel_rfl) Try.func3
    (ChangeSpec.witness6 (enc := enc) (C := Try.checked) false ⟨#[], #[.slice none 0 0], []⟩ 8 (by kernel_rfl) (by kernel_rfl) (by kernel_rfl) (by kernel_rfl)) ?_
  intro W base args ds gs before hval0 hW hcnd _
  have hval : ∀ (j : Nat) t v, Try.f3.params[j]? = some t → args[j]? = some v → Value.okWide Try.prog W .any base t v := hval0
  have hW' := hW
  obtain ⟨p, q, hA0, hV, rfl, hfz, hnd⟩ := hW
  have hA : DataW.TrodAll enc Try.prog W 0 (fun _ => true) true Try.f3.params.toList args.toList ds p := hA0
  rw [Try.params3] at hA hval
  obtain ⟨v0, vs0, d0, ds0, p0, q0, hargs, rfl, rfl, h0, r0⟩ := trodAll_cons hA
  obtain ⟨rfl, rfl, rfl⟩ := trodAll_nil r0
  obtain rfl : args = #[v0] := by cases args; simp_all
  obtain ⟨rfl, rfl⟩ := trodVars_none hV
  obtain ⟨a0, len0, cap0, rfl⟩ := okWide_slice Try.underlying22 (hval 0 22 v0 rfl rfl)
  have k0 := h0
  have lt0 : ∀ x ∈ p0, x.block < W.heap.size := by obtain ⟨m, hm⟩ := k0; exact DataW.trod_lt m _ _ _ hm
  obtain ⟨z0, w0⟩ : ∃ zs, IsRow .u8 W a0 len0 cap0 zs := by
    obtain ⟨fuel, hf⟩ := h0
    rcases open_ints Try.underlying22 Try.underlying5 (by kernel_rfl) hf with ⟨hcs, _⟩ | ⟨x, l, c, zs, hcs, _, hl, hm, hz, _, hcell, hwz⟩
    · simp [Value.cells] at hcs
      obtain ⟨rfl, rfl, rfl⟩ := hcs
      exact ⟨[], .inl ⟨rfl, rfl, rfl, rfl⟩⟩
    · simp [Value.cells] at hcs
      obtain ⟨rfl, rfl, rfl⟩ := hcs
      exact ⟨zs, .inr ⟨_, rfl, hl, hm, by simpa using hz, hcell, hwz⟩⟩
  clear hA0 hval0
  refine (walk a0 len0 cap0 z0 W w0).mono fun e W' ⟨he, bel⟩ => ?_
  subst he
  exact ⟨_, rfl, _, _, _, [], _, [], hW', trodAll_mk1 (shut_bool Try.underlying4 _), (trodAll_cons_mk (Below.trod laidOut (by kernel_rfl) (of_decide_eq_true (by kernel_rfl)) k0 bel lt0) trodAll_mk0), rfl, bel.frame _, fun h => by cases h⟩

theorem over : Rows.fnAddedRow.holds Try.pinned (OpenSpec.ofChange Rows.fnAddedSpec) :=
  OpenClaim.holds_of_wide 3 Try.f3 rfl rfl rfl rfl rfl rfl rfl ⟨rfl, rfl, rfl, rfl, rfl⟩ rfl rfl rfl rfl rfl (by kernel_rfl) Try.func3 (by kernel_rfl)
    (of_decide_eq_true (by kernel_rfl)) (by unfold Func.isWrapper; first | (rw [if_pos (by decide +kernel)]; kernel_rfl) | (rw [if_neg (by decide +kernel)]; exact ⟨rfl, rfl⟩))
    (fun os started H enc _ => lifted os started H enc)
end Go.Proofs.Ytofdbnkeddcdjaa.LawAdded
namespace Go.Proofs.Ytofdbnkeddcdjaa
theorem fnAdded_holds : Rows.FnAddedSaid := LawAdded.over
#print axioms fnAdded_holds
end Go.Proofs.Ytofdbnkeddcdjaa
