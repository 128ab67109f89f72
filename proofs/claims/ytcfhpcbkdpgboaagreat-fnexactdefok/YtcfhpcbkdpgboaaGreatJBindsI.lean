/-
  What the tested program's look at a variable answers: bindsI, of the patterns that are not Not.
-/
import Derived.Test.YtcfhpcbkdpgboaaGreatJRuleP
import Derived.Deep.QuietTactic
import Derived.BigQuiet
namespace Go.Proofs.YtcfhpcbkdpgboaaGreat
open Go.RowKit
set_option linter.unusedVariables false

theorem any_yes {α : Type} [Inhabited α] {L : List α} {p : α → Bool} {k : Nat} (hk : k < L.length) (h : p (eAt L k) = true) : L.any p = true := by
  rw [List.any_eq_true]; exact ⟨_, eAt_mem hk, h⟩
theorem any_no {α : Type} [Inhabited α] {L : List α} {p : α → Bool} (h : ∀ j, j < L.length → p (eAt L j) = false) : L.any p = false := by
  rw [Bool.eq_false_iff]
  intro ht
  rw [List.any_eq_true] at ht
  obtain ⟨x, hx, e⟩ := ht
  obtain ⟨j, hj, rfl⟩ := mem_eAt hx
  rw [h j hj] at e; cases e

/-- two arguments are the same, or part at one of their cells -/
theorem a5_cases (x y : A5) : x = y ∨ (sameA x y = false ∧ ((x.K == y.K) = false ∨ ((x.K == y.K) = true ∧ (x.S.toList == y.S.toList) = false) ∨ ((x.K == y.K) = true ∧ (x.S.toList == y.S.toList) = true ∧ (x.V.K == y.V.K) = false) ∨ ((x.K == y.K) = true ∧ (x.S.toList == y.S.toList) = true ∧ (x.V.K == y.V.K) = true ∧ (x.V.N == y.V.N) = false) ∨
    ((x.K == y.K) = true ∧ (x.S.toList == y.S.toList) = true ∧ (x.V.K == y.V.K) = true ∧ (x.V.N == y.V.N) = true ∧ (x.V.S.toList == y.V.S.toList) = false))) := by
  by_cases e : x = y
  · exact .inl e
  · refine .inr ⟨Bool.eq_false_iff.2 (fun h => e (sameA_t h)), ?_⟩
    obtain ⟨K, S, V⟩ := x
    obtain ⟨K', S', U⟩ := y
    show (K == K') = false ∨ ((K == K') = true ∧ (S.toList == S'.toList) = false) ∨ ((K == K') = true ∧ (S.toList == S'.toList) = true ∧ (V.K == U.K) = false) ∨ ((K == K') = true ∧ (S.toList == S'.toList) = true ∧ (V.K == U.K) = true ∧ (V.N == U.N) = false) ∨ ((K == K') = true ∧ (S.toList == S'.toList) = true ∧ (V.K == U.K) = true ∧ (V.N == U.N) = true ∧ (V.S.toList == U.S.toList) = false)
    by_cases h1 : K = K'
    · have k1 : (K == K') = true := by simpa using h1
      by_cases h2 : S = S'
      · have k2 : (S.toList == S'.toList) = true := by rw [h2]; simp
        have h3 : V ≠ U := fun h3 => e (by rw [h1, h2, h3])
        rcases v3_cases V U with h | ⟨-, h | ⟨h, h'⟩ | ⟨h, h', h''⟩⟩
        · exact absurd h h3
        · exact .inr (.inr (.inl ⟨k1, k2, h⟩))
        · exact .inr (.inr (.inr (.inl ⟨k1, k2, h, h'⟩)))
        · exact .inr (.inr (.inr (.inr ⟨k1, k2, h, h', h''⟩)))
      · exact .inr (.inl ⟨k1, beq_neS h2⟩)
    · exact .inl (by simpa using h1)

set_option maxRecDepth 100000 in
set_option maxHeartbeats 1600000 in
theorem indexA_any (a : Option Addr) (n cap : Nat) (L : List A5) (x : A5) (w : World) (hz : L.length = n) (hr : RdArg w a L) (hn : n ≤ 1048580) :
    Calls Tryz.prog 103 #[.slice a n cap, .agg #[.int .i64 x.K, .string x.S, .int .i64 x.V.K, .int .i64 x.V.N, .string x.V.S]] w fun e w' => (∃ r : Int, e = .returned (.int .i64 r) ∧ decide (0 ≤ r) = L.any (sameA x)) ∧ Below w.heap.size w w' := by
  have HZ := hide hz
  clear hz
  have b0 := below_al w (.cells #[.int .i64 x.K, .string x.S, .int .i64 x.V.K, .int .i64 x.V.N, .string x.V.S] 70)
  have hX := boxk_new w #[.int .i64 x.K, .string x.S, .int .i64 x.V.K, .int .i64 x.V.N, .string x.V.S] 70
  have hzz : w.heap.size < (w.alloc (.cells #[.int .i64 x.K, .string x.S, .int .i64 x.V.K, .int .i64 x.V.N, .string x.V.S] 70)).heap.size := by simp
  go_enter Tryz.func103, Tryz.ntmps103
  go_wp2
  generalize w.alloc (.cells #[.int .i64 x.K, .string x.S, .int .i64 x.V.K, .int .i64 x.V.N, .string x.V.S] 70) = w1 at b0 hX hzz ⊢
  go_loopw [8] (fun i wr => ∃ (k : Nat), k ≤ n ∧ i = .int .i64 k ∧ (∀ j, j < k → sameA x (eAt L j) = false) ∧ Below w1.heap.size w1 wr) (fun i _ => n - (intOf i).toNat)
  case atStart => exact ⟨0, Nat.zero_le _, rfl, fun j hj => absurd hj (Nat.not_lt_zero _), Below.refl _ _⟩
  case round =>
    obtain ⟨k, hk, rfl, hall, hbel⟩ := hrel
    have HA := hide hall
    clear hall
    have HB1 := hide (b0.trans (hbel.mono b0.size))
    by_cases hlt : k < n
    · obtain ⟨b, off, hab, hbw, hc⟩ := RdArg.cells (hr.below HB1.out) (by rw [HZ.out]; omega)
      obtain ⟨c0, c1, c2, c3, c4⟩ := hc k (by rw [HZ.out]; exact hlt)
      clear hc
      subst hab
      have HX := hide (box_below hX hbel hzz)
      have x0 := boxk_cell HX.out 0 _ rfl
      have x1 := boxk_cell HX.out 1 _ rfl
      have x2 := boxk_cell HX.out 2 _ rfl
      have x3 := boxk_cell HX.out 3 _ rfl
      have x4 := boxk_cell HX.out 4 _ rfl
      have l1 : (k : Int) < (n : Int) := by omega
      have HY := hide (any_yes (p := sameA x) (L := L) (k := k) (by rw [HZ.out]; exact hlt))
      have HNk : Hid (sameA x (eAt L k) = false → ∀ j, j < k + 1 → sameA x (eAt L j) = false) := fun h j hj => by
        by_cases e : j = k
        · rw [e]; exact h
        · exact HA.out j (by omega)
      generalize eAt L k = y at c0 c1 c2 c3 c4 HY HNk
      have HBd := hide hbel.drew
      clear hbel
      rcases a5_cases x y with rfl | ⟨hs, hv⟩
      · have HV := hide (HY.out (sameA_refl x))
        clear HY HNk
        have k1 : (x.K == x.K) = true := by simp
        have k2 : (x.S.toList == x.S.toList) = true := by simp
        have k3 : (x.V.K == x.V.K) = true := by simp
        have k4 : (x.V.N == x.V.N) = true := by simp
        have k5 : (x.V.S.toList == x.V.S.toList) = true := by simp
        go_wp2
        go_region_with (fail)
        all_goals
          go_wp2
          go_ret
          exact ⟨⟨k, rfl, by rw [HV.out]; simp⟩, HB1.out.drew⟩
      · have HN2 := hide (HNk.out hs)
        clear HY HNk hs
        rcases hv with k1 | ⟨k1, k2⟩ | ⟨k1, k2, k3⟩ | ⟨k1, k2, k3, k4⟩ | ⟨k1, k2, k3, k4, k5⟩
        all_goals
          go_wp2
          go_region_with (fail)
          all_goals
            go_wp2
            go_roundw
            case rel => exact ⟨k + 1, by omega, by go_num, HN2.out, HBd.out⟩
            case measure => simp [intOf]; omega
    · have HV := hide (any_no (p := sameA x) (L := L) (fun j hj => HA.out j (by rw [HZ.out] at hj; omega)))
      go_wp2
      go_ret
      exact ⟨⟨-1, rfl, by rw [HV.out]; rfl⟩, HB1.out⟩

set_option maxRecDepth 100000 in
theorem containsA_any (a : Option Addr) (n cap : Nat) (L : List A5) (x : A5) (w : World) (hz : L.length = n) (hr : RdArg w a L) (hn : n ≤ 1048580) :
    Calls Tryz.prog 80 #[.slice a n cap, .agg #[.int .i64 x.K, .string x.S, .int .i64 x.V.K, .int .i64 x.V.N, .string x.V.S]] w fun e w' => e = .returned (.bool (L.any (sameA x))) ∧ Below w.heap.size w w' := by
  have b0 := below_al w (.cells #[.int .i64 x.K, .string x.S, .int .i64 x.V.K, .int .i64 x.V.N, .string x.V.S] 70)
  go_enter Tryz.func80, Tryz.ntmps80
  go_wp2_with fail
  refine (indexA_any a n cap L x _ hz (hr.below b0) hn).mono ?_
  rintro e w1 ⟨⟨r, rfl, h⟩, hb⟩
  have H := hide h
  have hB : Below w.heap.size w w1 := b0.trans (hb.mono b0.size)
  clear h hb b0
  go_wp2
  go_ret
  exact ⟨ret_bool H.out, hB⟩

set_option maxRecDepth 100000 in
theorem bindsLit_any (kd : ByteArray) (a : Option Addr) (cap : Nat) (L : List A5) (nt : Bool) (x : A5) (q : Nat) (w : World) (hr : RdArg w a L) (hn : L.length ≤ 1048576) (hq : w.heap[q]? = some (.cells #[.int .i64 x.K, .string x.S, .int .i64 x.V.K, .int .i64 x.V.N, .string x.V.S] 70 (0, 0))) :
    Calls Tryz.prog 79 #[.agg #[.string kd, .slice a L.length cap, .bool nt], .pointer (some ⟨q, 0, none⟩)] w fun e w' => e = .returned (.bool (L.any (sameA x))) ∧ Below w.heap.size w w' := by
  have b0 := below_al w (.cells #[.string kd, .slice a L.length cap, .bool nt] 86)
  have hX := box_step hq b0
  have x0 := boxk_cell hX 0 _ rfl
  have x1 := boxk_cell hX 1 _ rfl
  have x2 := boxk_cell hX 2 _ rfl
  have x3 := boxk_cell hX 3 _ rfl
  have x4 := boxk_cell hX 4 _ rfl
  go_enter Tryz.func79, Tryz.ntmps79
  go_wp2_with fail
  refine (containsA_any a L.length cap L x _ rfl (hr.below b0) (by omega)).mono ?_
  rintro e w1 ⟨rfl, hb⟩
  have hB : Below w.heap.size w w1 := b0.trans (hb.mono b0.size)
  clear hb b0 hX x0 x1 x2 x3 x4
  go_wp2
  go_ret
  exact ⟨rfl, hB⟩

set_option maxRecDepth 100000 in
set_option maxHeartbeats 1600000 in
theorem indexP_any (a : Option Addr) (n cap : Nat) (J : List PE) (x : A5) (q : Nat) (w : World) (hz : J.length = n) (hr : RdPatS w a J) (hs : ∀ p ∈ J, p.small) (hn : n ≤ 1048580) (hq : w.heap[q]? = some (.cells #[.int .i64 x.K, .string x.S, .int .i64 x.V.K, .int .i64 x.V.N, .string x.V.S] 70 (0, 0))) :
    Calls Tryz.prog 102 #[.slice a n cap, .func (.func 79) #[] #[.pointer (some ⟨q, 0, none⟩)]] w fun e w' => (∃ r : Int, e = .returned (.int .i64 r) ∧ decide (0 ≤ r) = J.any (fun p => p.L.any (sameA x))) ∧ Below w.heap.size w w' := by
  have HZ := hide hz
  have HS := hide hs
  have HQ := hide hq
  clear hz hs hq
  go_enter Tryz.func102, Tryz.ntmps102
  go_wp2
  go_loopw [8] (fun i wr => ∃ (k : Nat), k ≤ n ∧ i = .int .i64 k ∧ (∀ j, j < k → (eAt J j).L.any (sameA x) = false) ∧ Below w.heap.size w wr) (fun i _ => n - (intOf i).toNat)
  case atStart => exact ⟨0, Nat.zero_le _, rfl, fun j hj => absurd hj (Nat.not_lt_zero _), Below.refl _ _⟩
  case round =>
    obtain ⟨k, hk, rfl, hall, hbel⟩ := hrel
    have HA := hide hall
    clear hall
    by_cases hlt : k < n
    · have hlL : k < J.length := by rw [HZ.out]; exact hlt
      obtain ⟨b, off, hab, hbw, hc⟩ := (hr.below hbel).cells (by omega)
      obtain ⟨c0, c1, c2, hin⟩ := hc k hlL
      clear hc
      subst hab
      have hL := (HS.out _ (eAt_mem hlL)).2.1
      have HY := hide (any_yes (p := fun p : PE => p.L.any (sameA x)) (L := J) hlL)
      have HNk : Hid ((eAt J k).L.any (sameA x) = false → ∀ j, j < k + 1 → (eAt J j).L.any (sameA x) = false) := fun h j hj => by
        by_cases e : j = k
        · rw [e]; exact h
        · exact HA.out j (by omega)
      have HQr := hide (box_step HQ.out hbel)
      have HIn := hide hin
      clear hin
      generalize eAt J k = y at c0 c1 c2 HIn HY HNk hL
      obtain ⟨kd, ya, yc, L, nt⟩ := y
      simp only at c0 c1 c2 HIn HY HNk hL
      go_wp2_with fail
      refine (bindsLit_any kd ya yc L nt x q _ HIn.out hL HQr.out).mono ?_
      rintro e w2 ⟨rfl, hb2⟩
      have hbel2 : Below w.heap.size w w2 := hbel.trans (hb2.mono hbel.size)
      clear hb2 c0 c1 c2 HIn hbel HQr
      generalize L.any (sameA x) = bb at HY HNk ⊢
      cases bb
      · have HN2 := hide (HNk.out rfl)
        clear HY HNk
        go_wp2
        go_roundw
        case rel => exact ⟨k + 1, by omega, by go_num, HN2.out, hbel2⟩
        case measure => simp [intOf]; omega
      · have HV := hide (HY.out rfl)
        clear HY HNk
        go_wp2
        go_ret
        exact ⟨⟨k, rfl, by rw [HV.out]; simp⟩, hbel2⟩
    · have HV := hide (any_no (p := fun p : PE => p.L.any (sameA x)) (L := J) (fun j hj => HA.out j (by rw [HZ.out] at hj; omega)))
      go_wp2
      go_ret
      exact ⟨⟨-1, rfl, by rw [HV.out]; rfl⟩, hbel⟩

set_option maxRecDepth 100000 in
theorem containsP_any (a : Option Addr) (n cap : Nat) (J : List PE) (x : A5) (q : Nat) (w : World) (hz : J.length = n) (hr : RdPatS w a J) (hs : ∀ p ∈ J, p.small) (hn : n ≤ 1048580) (hq : w.heap[q]? = some (.cells #[.int .i64 x.K, .string x.S, .int .i64 x.V.K, .int .i64 x.V.N, .string x.V.S] 70 (0, 0))) :
    Calls Tryz.prog 78 #[.slice a n cap, .func (.func 79) #[] #[.pointer (some ⟨q, 0, none⟩)]] w fun e w' => e = .returned (.bool (J.any (fun p => p.L.any (sameA x)))) ∧ Below w.heap.size w w' := by
  go_enter Tryz.func78, Tryz.ntmps78
  go_wp2_with fail
  refine (indexP_any a n cap J x q _ hz hr hs hn hq).mono ?_
  rintro e w1 ⟨⟨r, rfl, h⟩, hb⟩
  have H := hide h
  clear h
  go_wp2
  go_ret
  exact ⟨ret_bool H.out, hb⟩

set_option maxRecDepth 100000 in
set_option maxHeartbeats 1600000 in
theorem binds_any (a : Option Addr) (n cap : Nat) (J : List PE) (K : Int) (S : ByteArray) (VK VN : Int) (VS : ByteArray) (w : World) (hz : J.length = n) (hr : RdPatS w a J) (hs : ∀ p ∈ J, p.small) (hn : n ≤ 1048580) :
    Calls Tryz.prog 57 #[.slice a n cap, .agg #[.int .i64 K, .string S, .int .i64 VK, .int .i64 VN, .string VS]] w fun e w' => e = .returned (.bool (bindsI J ⟨K, S, ⟨VK, VN, VS⟩⟩)) ∧ Below w.heap.size w w' := by
  have HB : Hid (bindsI J ⟨K, S, ⟨VK, VN, VS⟩⟩ = (!decide (K = 1) || J.any (fun p => p.L.any (sameA ⟨K, S, ⟨VK, VN, VS⟩⟩)))) := rfl
  have b0 := below_al w (.cells #[.int .i64 K, .string S, .int .i64 VK, .int .i64 VN, .string VS] 70)
  have hX := boxk_new w #[.int .i64 K, .string S, .int .i64 VK, .int .i64 VN, .string VS] 70
  have hmf : ∀ (fn : Fn) (first cap : Array Value) (w : World), (Instr.makeFunc fn first cap).run Tryz.prog w = .ok (.func fn first cap) w := fun _ _ _ _ => rfl
  by_cases h1 : K = 1
  · subst h1
    go_enter Tryz.func57, Tryz.ntmps57
    go_wp2_with fail
    refine (containsP_any a n cap J ⟨1, S, ⟨VK, VN, VS⟩⟩ w.heap.size _ hz (hr.below b0) hs hn hX).mono ?_
    rintro e w1 ⟨rfl, hb⟩
    have hB : Below w.heap.size w w1 := b0.trans (hb.mono b0.size)
    clear hb b0 hX
    generalize J.any (fun p => p.L.any (sameA ⟨1, S, ⟨VK, VN, VS⟩⟩)) = bb at HB ⊢
    go_wp2
    go_ret
    exact ⟨by rw [HB.out]; rfl, hB⟩
  · have k1 : (K != 1) = true := by simpa using h1
    have HF : Hid (bindsI J ⟨K, S, ⟨VK, VN, VS⟩⟩ = true) := by unfold Hid; rw [HB.out, decide_eq_false h1]; rfl
    clear hX h1
    go_enter Tryz.func57, Tryz.ntmps57
    go_wp2
    go_ret
    exact ⟨by rw [HF.out]; rfl, b0⟩
end Go.Proofs.YtcfhpcbkdpgboaaGreat
