/-
  Proved: for every row of bytes, the law on sums answers true (a sum has 32 bits, and turns with any one bit), and the row reads as it did. No condition.
-/
import Derived.Test.YtoppajcjpbdgjaaDrawB
import Derived.Test.YtoppajcjpbdgjaaOwnD
import Derived.Test.YtoppajcjpbdgjaaCrcI
import Derived.Deep.RegionWith
import Derived.ProofKit
import Derived.OpenShut
import Derived.ShutString
import Derived.ChangeOld
import Derived.Below
namespace Go.Proofs.Ytoppajcjpbdgjaa.LawSums
open Go.ChangeShapes Go.WideShapes Go.ChangeAt Go.RowKit
open Go.ChangeMaps (open_string shut_string)
set_option linter.unusedVariables false

set_option maxHeartbeats 400000 in
theorem big_any (a : Option Addr) (len cap : Nat) (w : World) (h : len ≤ 9223372036854775807) :
    Calls Try.prog 7 #[.slice a len cap] w fun e w' => e = .returned (.bool (decide ((1048576 : Int) < (len : Int)))) ∧ w' = w := by
  go_enter Try.func7, Try.ntmps7
  go_wp2
  go_ret
  exact ⟨rfl, rfl⟩

/-- the law's own look at a byte of the draw -/
def atN (code : List UInt8) (i : Nat) : Nat := if i < code.length then (byteAt code i).toNat else (i * 31 + code.length * 7) % 256
theorem atN_lt (code : List UInt8) (i : Nat) : atN code i < 256 := by
  unfold atN; split
  · have := byteAt_hi code i; omega
  · omega
set_option maxHeartbeats 400000 in
theorem at_any (a : Option Addr) (cap i : Nat) (code : List UInt8) (w : World) (hr : Rd w a code) (hn : code.length ≤ 1048576) (hi : i ≤ 100) :
    Calls Try.prog 16 #[.slice a code.length cap, .int .i64 (i : Int)] w fun e w' => e = .returned (.int .i64 (atN code i : Nat)) ∧ w' = w := by
  by_cases hlt : i < code.length
  · obtain ⟨b, off, rfl, _, hc⟩ := hr.open (by omega)
    have h1 := hc i hlt
    have y1 := byteAt_lo code i
    have y2 := byteAt_hi code i
    have HA : Hid (((atN code i : Nat) : Int) = byteAt code i) := by unfold Hid atN; rw [if_pos hlt]; omega
    generalize byteAt code i = y at h1 y1 y2 HA
    clear hc
    go_enter Try.func16, Try.ntmps16
    go_wp2
    go_ret
    exact ⟨ret_int HA.out.symm, rfl⟩
  · have HA : Hid (((atN code i : Nat) : Int) = ((i : Int) * 31 + (code.length : Int) * 7) % 256) := by unfold Hid atN; rw [if_neg hlt]; omega
    go_enter Try.func16, Try.ntmps16
    go_wp2
    go_ret
    exact ⟨ret_int HA.out.symm, rfl⟩

theorem crcTo_set (bs : List UInt8) (i : Nat) (c : UInt8) : ∀ k, k ≤ i → crcTo (bs.set i c) k = crcTo bs k
  | 0, _ => rfl
  | k + 1, h => by
    show cbyte (crcTo (bs.set i c) k) _ = cbyte (crcTo bs k) _
    rw [crcTo_set bs i c k (by omega)]
    unfold byteAt
    rw [List.getD_eq_getElem?_getD, List.getD_eq_getElem?_getD, List.getElem?_set_ne (by omega)]
theorem cstep_inj {x y : Nat} (hx : x < 4294967296) (hy : y < 4294967296) (h : cstep x = cstep y) : x = y := by
  have hbit : ∀ z : Nat, z < 2147483648 → 2147483648 ≤ z ^^^ 2197175160 := by
    intro z hz
    have h1 : (z ^^^ 2197175160).testBit 31 = true := by
      rw [Nat.testBit_xor, Nat.testBit_lt_two_pow (by omega)]
      decide
    exact Nat.ge_two_pow_of_testBit h1
  unfold cstep at h
  have hx2 : x / 2 < 2147483648 := by omega
  have hy2 : y / 2 < 2147483648 := by omega
  split at h <;> split at h
  · have e : x / 2 = y / 2 := by
      have := congrArg (· ^^^ 2197175160) h
      simpa [Nat.xor_assoc] using this
    omega
  · have := hbit _ hx2; omega
  · have := hbit _ hy2; omega
  · omega
theorem cstepN_inj : ∀ k {x y : Nat}, x < 4294967296 → y < 4294967296 → cstepN k x = cstepN k y → x = y
  | 0, x, y, _, _, h => h
  | k + 1, x, y, hx, hy, h => cstepN_inj k hx hy (cstep_inj (cstepN_lt hx k) (cstepN_lt hy k) h)
theorem crcTo_ne (bs : List UInt8) (i : Nat) (c : UInt8) (hi : i < bs.length) (hc : c ≠ bs[i]) : ∀ d, crcTo (bs.set i c) (i + 1 + d) ≠ crcTo bs (i + 1 + d)
  | 0 => by
    intro h
    have h1 : cbyte (crcTo (bs.set i c) i) (byteAt (bs.set i c) i).toNat = cbyte (crcTo bs i) (byteAt bs i).toNat := h
    rw [crcTo_set bs i c i (Nat.le_refl _)] at h1
    have hb1 : (byteAt (bs.set i c) i).toNat = c.toNat := by unfold byteAt; simp [List.getD, hi]
    have hb2 : (byteAt bs i).toNat = bs[i].toNat := by unfold byteAt; simp [List.getD, hi]
    rw [hb1, hb2] at h1
    have hX := crcTo_lt bs i
    have := cstepN_inj 8 (cxor_lt hX (by have := c.toNat_lt; omega)) (cxor_lt hX (by have := bs[i].toNat_lt; omega)) h1
    have h2 : c.toNat = bs[i].toNat := by
      have := congrArg (crcTo bs i ^^^ ·) this
      simpa [← Nat.xor_assoc] using this
    exact hc (UInt8.toNat_inj.1 h2)
  | d + 1 => by
    intro h
    have h1 : cbyte (crcTo (bs.set i c) (i + 1 + d)) (byteAt (bs.set i c) (i + 1 + d)).toNat = cbyte (crcTo bs (i + 1 + d)) (byteAt bs (i + 1 + d)).toNat := h
    have hb : byteAt (bs.set i c) (i + 1 + d) = byteAt bs (i + 1 + d) := by
      unfold byteAt
      rw [List.getD_eq_getElem?_getD, List.getD_eq_getElem?_getD, List.getElem?_set_ne (by omega)]
    rw [hb] at h1
    have hB : (byteAt bs (i + 1 + d)).toNat < 4294967296 := by have := byteAt_hi bs (i + 1 + d); omega
    have := cstepN_inj 8 (cxor_lt (crcTo_lt _ _) hB) (cxor_lt (crcTo_lt _ _) hB) h1
    have h2 : crcTo (bs.set i c) (i + 1 + d) = crcTo bs (i + 1 + d) := by
      have := congrArg (· ^^^ (byteAt bs (i + 1 + d)).toNat) this
      simpa [Nat.xor_assoc] using this
    exact crcTo_ne bs i c hi hc d h2
theorem crcN_set (bs : List UInt8) (i : Nat) (c : UInt8) (hi : i < bs.length) (hc : c ≠ bs[i]) : crcN (bs.set i c) ≠ crcN bs := by
  unfold crcN
  intro h
  have h2 : crcTo (bs.set i c) (bs.set i c).length = crcTo bs bs.length := by
    have := congrArg (· ^^^ 4294967295) h
    simpa [Nat.xor_assoc] using this
  rw [List.length_set] at h2
  obtain ⟨d, hd⟩ : ∃ d, bs.length = i + 1 + d := ⟨bs.length - (i + 1), by omega⟩
  rw [hd] at h2
  exact crcTo_ne bs i c hi hc d h2
theorem crcN_lt (bs : List UInt8) : crcN bs < 4294967296 := cxor_lt (crcTo_lt _ _) (by omega)

theorem flip_byte (E : List UInt8) (i t : Nat) (hi : i < E.length) : ∃ cc : UInt8, bits BinOp.xor IntKind.u8 (byteAt E i) (2 ^ min (t % 8) 8 % 256) = (cc.toNat : Int) ∧ cc ≠ E[i] := by
  have hb : byteAt E i = ((E[i].toNat : Nat) : Int) := by unfold byteAt; simp [List.getD, hi]
  have ht : t % 8 < 8 := Nat.mod_lt _ (by omega)
  have hp : ∀ k : Nat, k < 8 → ((2 : Int) ^ min k 8 % 256) = ((2 ^ k : Nat) : Int) ∧ 2 ^ k < 256 ∧ 0 < 2 ^ k := by
    intro k hk
    rcases (show k = 0 ∨ k = 1 ∨ k = 2 ∨ k = 3 ∨ k = 4 ∨ k = 5 ∨ k = 6 ∨ k = 7 by omega) with rfl | rfl | rfl | rfl | rfl | rfl | rfl | rfl <;> decide
  obtain ⟨h1, h2, h3⟩ := hp _ ht
  have hx : E[i].toNat ^^^ 2 ^ (t % 8) < 256 := Nat.xor_lt_two_pow (n := 8) (by have := E[i].toNat_lt; omega) (by omega)
  refine ⟨UInt8.ofNat (E[i].toNat ^^^ 2 ^ (t % 8)), ?_, ?_⟩
  · rw [hb, h1, u8_xor_nat _ _ (by have := E[i].toNat_lt; omega) h2]
    simp only [UInt8.toNat_ofNat']
    omega
  · intro h
    have h4 := congrArg UInt8.toNat h
    simp only [UInt8.toNat_ofNat'] at h4
    rw [Nat.mod_eq_of_lt (by omega)] at h4
    have h5 : 2 ^ (t % 8) = 0 := by
      have h6 := congrArg (E[i].toNat ^^^ ·) h4
      simp only [← Nat.xor_assoc, Nat.xor_self, Nat.zero_xor] at h6
      exact h6
    omega
theorem own_set {w : World} {g cap i : Nat} {E : List UInt8} (h : Own w g cap E) (hi : i < E.length) (cc : UInt8) :
    Own (w.setCell ⟨g, i, none⟩ (.int .u8 (cc.toNat : Int))) g cap (E.set i cc) ∧ True := by
  have := (World.ownsRow.stored h i (.int .u8 (cc.toNat : Int))).1
  refine ⟨?_, trivial⟩
  unfold Own
  rw [List.length_set, show vals (E.set i cc) = (vals E).set i (.int .u8 (cc.toNat : Int)) by simp [vals, List.map_set]]
  exact this

set_option maxRecDepth 100000 in
set_option maxHeartbeats 3200000 in
theorem law (a : Option Addr) (cap : Nat) (code : List UInt8) (w : World) (hr : Rd w a code) (hm : code.length ≤ maxLen) :
    Calls Try.prog 4 #[.slice a code.length cap] w fun e w' => e = .returned (.bool true) ∧ Below w.heap.size w w' := by
  obtain ⟨i0, hi, hz0, hz1, hz2⟩ := info_parts Try.info5
  unfold maxLen at hm
  by_cases hb : 1048576 < code.length
  · have hd : decide ((1048576 : Int) < (code.length : Int)) = true := by simp; omega
    go_enter Try.func4, Try.ntmps4
    go_wp2_with (go_at_call 7; refine (big_any _ _ _ _ (by omega)).mono ?_; rintro e w' ⟨rfl, rfl⟩)
    go_ret
    exact ⟨rfl, Below.refl _ _⟩
  · have hd : decide ((1048576 : Int) < (code.length : Int)) = false := by simp; omega
    go_enter Try.func4, Try.ntmps4
    go_wp2_with fail
    refine (big_any _ _ _ _ (by omega)).mono ?_
    rintro e w' ⟨rfl, rfl⟩
    go_wp2_with fail
    refine (drawCrc_any a cap code w' hr (by omega)).mono ?_
    rintro e w1 ⟨v1, bs, rfl, hl, ho, hv, g1⟩
    have B1 := (Below.refl w'.heap.size w').grown g1 (Nat.le_refl _) (fun k hk => by cases hk)
    clear hd hv g1
    go_wp2_with (at_builtin; refine wpList_append_own _ rfl (.tmp 8) (.tmp 9) 22 rfl w'.heap.size 5 i0 (.int .u8 0) 1 1 Try.underlying22 hi hz0 hz1 hz2 rfl (by decide) _ _ _ rfl (ho.alloc _) ⟨w1.heap.size, 0, none⟩ 1 1 [.int .u8 5] rfl rfl (one_cell _ _ _) (by intro u hu; simp at hu; subst hu; rfl) (by unfold maxLen; omega) (by omega) (by have := B1.size; simp; omega) ?_)
    intro v2 w2 hown2 hgrow2 _
    have hV : vals bs ++ [Value.int .u8 5] = vals (bs ++ [5]) := by simp [vals]
    rw [hV] at hown2
    have B2 : Below w'.heap.size w' w2 := (B1.alloc B1.size _).grown hgrow2 (by have := B1.size; simp; omega) (fun k hk => (ho.lt k hk).1)
    obtain ⟨g, c, rfl, hgB, o2⟩ := owns_own hown2 (by simp)
    clear hgrow2 ho hV hown2
    have hEl : (bs ++ [5]).length ≤ 10 := by simp; omega
    have hE1 : 1 ≤ (bs ++ [5]).length := by simp
    generalize bs ++ [5] = E at o2 hEl hE1 ⊢
    have HC1 := implCrc_any _ c E w2 o2.rd (by omega)
    obtain ⟨n, HN⟩ : ∃ n, Hid (E.length = n) := ⟨_, rfl⟩
    rw [HN.out] at hEl hE1 HC1 ⊢
    go_wp2_with fail
    refine HC1.mono ?_
    rintro e w3 ⟨rfl, rfl⟩
    have hX1 : ((crcN E : Nat) : Int) ≤ 4294967295 := by have := crcN_lt E; omega
    have hX0 : (0 : Int) ≤ ((crcN E : Nat) : Int) := by omega
    have hA2 := atN_lt code 2
    have hA3 := atN_lt code 3
    have hI : atN code 2 % n < n := Nat.mod_lt _ (by omega)
    have hcell : w3.cell? ⟨g, atN code 2 % n, none⟩ = some (.int .u8 (byteAt E (atN code 2 % n))) := by
      have := World.ownsRow.cellAt o2 (atN code 2 % n) (by rw [HN.out]; omega)
      rw [vals_get (by rw [HN.out]; exact hI)] at this; exact this
    have hfr : w3.frozen? ⟨g, atN code 2 % n, none⟩ = false := World.ownsRow.frozenAt o2 _
    have hto : ((atN code 2 : Int) % (n : Int)).toNat = atN code 2 % n := by omega
    have hcell2 : w3.cell? ⟨g, ((atN code 2 : Int) % (n : Int)).toNat, none⟩ = some (.int .u8 (byteAt E (atN code 2 % n))) := by rw [hto]; exact hcell
    have hfr2 : w3.frozen? ⟨g, ((atN code 2 : Int) % (n : Int)).toNat, none⟩ = false := by rw [hto]; exact hfr
    have HTo := hide hto
    clear hto
    obtain ⟨cc, hcv, hcne⟩ := flip_byte E (atN code 2 % n) (atN code 3) (by rw [HN.out]; exact hI)
    have HD := hide (crcN_set E (atN code 2 % n) cc (by rw [HN.out]; exact hI) hcne)
    clear hcne
    have HAT := hide (fun i hi2 w hr => at_any a cap i code w hr (by omega) hi2)
    have HR := hide (hr.below B2)
    have y1 := byteAt_lo E (atN code 2 % n)
    have y2 := byteAt_hi E (atN code 2 % n)
    have hn0 : ((n : Int) == 0) = false := by simp; omega
    go_wp2_with fail
    go_region_with (first
      | (go_at_call_of 16 (Value.int IntKind.i64 2); refine (HAT.out 2 (by omega) _ ?_).mono ?_; exact HR.out.heap rfl; rintro e w4 ⟨rfl, rfl⟩)
      | (go_at_call_of 16 (Value.int IntKind.i64 3); refine (HAT.out 3 (by omega) _ ?_).mono ?_; exact HR.out.heap rfl; rintro e w4 ⟨rfl, rfl⟩))
    all_goals
      go_wp2_with fail
      have o4 := own_set o2 (show atN code 2 % n < E.length by rw [HN.out]; exact hI) cc
      have HC2 := implCrc_any _ c (E.set (atN code 2 % n) cc) (w3.setCell ⟨g, atN code 2 % n, none⟩ (.int .u8 (cc.toNat : Int))).drew (o4.1.rd.heap rfl) (by rw [List.length_set, HN.out]; omega)
      rw [List.length_set, HN.out] at HC2
      have B4 : Below w'.heap.size w' (w3.setCell ⟨g, atN code 2 % n, none⟩ (.int .u8 (cc.toNat : Int))).drew := (B2.setCell hgB _).drew
      refine HC2.mono ?_
      rintro e w5 ⟨rfl, rfl⟩
      have hne : (((crcN (E.set (atN code 2 % n) cc) : Nat) : Int) != ((crcN E : Nat) : Int)) = true := by have := HD.out; simp; omega
      go_wp2
      go_ret
      exact ⟨rfl, B4⟩

theorem walk (a0 : Option Addr) (len0 cap0 : Nat) (z0 : List Int) (w : World) (w0 : IsRow .u8 w a0 len0 cap0 z0) :
    Calls Try.prog 4 #[.slice a0 len0 cap0] w fun e w' => e = .returned (.bool true) ∧ Below w.heap.size w w' := by
  obtain ⟨bs, hl, hr⟩ := rd_row w0
  have hm : len0 ≤ maxLen := isRow_len w0
  subst hl
  exact law a0 cap0 bs w hr hm

theorem own : ownKnob Try.prog.godebug = none := by kernel_rfl
theorem laidOut : laidOutB Try.prog = true := by kernel_rfl

set_option maxRecDepth 100000 in
theorem lifted (os : Os) (started : os.Started) (H : Type) (enc : TypeId × Value → H) :
    ReturnsInHanded {} Try.checked os 4 .any (Rows.fnSumsSpec.pre6 enc Try.prog Try.f4 Rows.fnSumsRow.domain false) (Rows.fnSumsSpec.post enc Try.prog Try.f4 false true false false) := by
  refine returnsInHanded_of_change (C := Try.checked) own started (by kernel_rfl) Try.func4
    (ChangeSpec.witness6 (enc := enc) (C := Try.checked) false ⟨#[], #[.slice none 0 0], []⟩ 8 (by kernel_rfl) (by kernel_rfl) (by kernel_rfl) (by kernel_rfl)) ?_
  intro W base args ds gs before hval0 hW hcnd _
  have hval : ∀ (j : Nat) t v, Try.f4.params[j]? = some t → args[j]? = some v → Value.okWide Try.prog W .any base t v := hval0
  have hW' := hW
  obtain ⟨p, q, hA0, hV, rfl, hfz, hnd⟩ := hW
  have hA : DataW.TrodAll enc Try.prog W 0 (fun _ => true) true Try.f4.params.toList args.toList ds p := hA0
  rw [Try.params4] at hA hval
  obtain ⟨v0, vs0, d0, ds0, p0, q0, hargs, rfl, rfl, h0, r0⟩ := trodAll_cons hA
  obtain ⟨rfl, rfl, rfl⟩ := trodAll_nil r0
  obtain rfl : args = #[v0] := by cases args; simp_all
  obtain ⟨rfl, rfl⟩ := trodVars_none hV
  obtain ⟨a0, len0, cap0, rfl⟩ := okWide_slice Try.underlying22 (hval 0 22 v0 rfl rfl)
  have k0 := h0
  have lt0 : ∀ x ∈ p0, x.block < W.heap.size := by obtain ⟨m, hm⟩ := k0; exact DataW.trod_lt m _ _ _ hm
  obtain ⟨z0, w0⟩ : ∃ zs, IsRow .u8 W a0 len0 cap0 zs := by
    obtain ⟨fuel, hf⟩ := h0
    rcases open_ints Try.underlying22 Try.underlying5 (by kernel_rfl) hf with ⟨hcs, _⟩ | ⟨x, l, c, zs, hcs, _, hl, hm, hz, _, hcell, hwz⟩
    · simp [Value.cells] at hcs
      obtain ⟨rfl, rfl, rfl⟩ := hcs
      exact ⟨[], .inl ⟨rfl, rfl, rfl, rfl⟩⟩
    · simp [Value.cells] at hcs
      obtain ⟨rfl, rfl, rfl⟩ := hcs
      exact ⟨zs, .inr ⟨_, rfl, hl, hm, by simpa using hz, hcell, hwz⟩⟩
  clear hA0 hval0
  refine (walk a0 len0 cap0 z0 W w0).mono fun e W' ⟨he, bel⟩ => ?_
  subst he
  exact ⟨_, rfl, _, _, _, [], _, [], hW', trodAll_mk1 (shut_bool Try.underlying4 _), (trodAll_cons_mk (Below.trod laidOut (by kernel_rfl) (of_decide_eq_true (by kernel_rfl)) k0 bel lt0) trodAll_mk0), rfl, bel.frame _, fun h => by cases h⟩

theorem over : Rows.fnSumsRow.holds Try.pinned (OpenSpec.ofChange Rows.fnSumsSpec) :=
  OpenClaim.holds_of_wide 4 Try.f4 rfl rfl rfl rfl rfl rfl rfl ⟨rfl, rfl, rfl, rfl, rfl⟩ rfl rfl rfl rfl rfl (by kernel_rfl) Try.func4 (by kernel_rfl)
    (of_decide_eq_true (by kernel_rfl)) (by unfold Func.isWrapper; first | (rw [if_pos (by decide +kernel)]; kernel_rfl) | (rw [if_neg (by decide +kernel)]; exact ⟨rfl, rfl⟩))
    (fun os started H enc _ => lifted os started H enc)
end Go.Proofs.Ytoppajcjpbdgjaa.LawSums
namespace Go.Proofs.Ytoppajcjpbdgjaa
theorem fnSums_holds : Rows.FnSumsSaid := LawSums.over
#print axioms fnSums_holds
end Go.Proofs.Ytoppajcjpbdgjaa
