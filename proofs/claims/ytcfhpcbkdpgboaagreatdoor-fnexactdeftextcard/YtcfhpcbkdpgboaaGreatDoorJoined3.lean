/-
  Texts of this claim joined into one: ActOk, RuleP, BindsI, PosI, PosCI, RuleOkA, RuleOkB.
-/
import Derived.Test.YtcfhpcbkdpgboaaGreatDoorJoined2
import Derived.Test.YtcfhpcbkdpgboaaGreatDoorJoined1
import Derived.Deep.QuietTactic
import Derived.BigQuiet
import Derived.Deep.RegionWith
/-
  What both ActOks answer: actB.
-/
namespace Go.Proofs.YtcfhpcbkdpgboaaGreatDoor
open Go.RowKit
set_option linter.unusedVariables false

/-- an act with neither a name nor terms -/
def bareX (nm : ByteArray) (L : List X11) : Bool := decide (nm.size = 0) && decide (L.length = 0)
/-- when an act is right -/
def actB (K : Int) (nm : ByteArray) (L : List X11) (N : Int) (un : ByteArray) : Bool :=
  if K = 1 then namedX nm L && decide (N = 0) && decide (un.size = 0)
  else if K = 2 then bareX nm L && inB N 0 7 && decide (un.size = 0)
  else if K = 3 then namedX nm L && decide (N = 0) && (decide (un.size = 0) || nameB un)
  else if K = 4 then namedX nm L && inB N 0 100000 && decide (un.size = 0)
  else if K = 5 ∨ K = 6 then bareX nm L && decide (N = 0) && decide (un.size = 0)
  else false
theorem actB1 (nm : ByteArray) (L : List X11) (N : Int) (un : ByteArray) : actB 1 nm L N un = (namedX nm L && decide (N = 0) && decide (un.size = 0)) := rfl
theorem actB2 (nm : ByteArray) (L : List X11) (N : Int) (un : ByteArray) : actB 2 nm L N un = (bareX nm L && inB N 0 7 && decide (un.size = 0)) := rfl
theorem actB3 (nm : ByteArray) (L : List X11) (N : Int) (un : ByteArray) : actB 3 nm L N un = (namedX nm L && decide (N = 0) && (decide (un.size = 0) || nameB un)) := rfl
theorem actB4 (nm : ByteArray) (L : List X11) (N : Int) (un : ByteArray) : actB 4 nm L N un = (namedX nm L && inB N 0 100000 && decide (un.size = 0)) := rfl
theorem actB5 (nm : ByteArray) (L : List X11) (N : Int) (un : ByteArray) : actB 5 nm L N un = (bareX nm L && decide (N = 0) && decide (un.size = 0)) := rfl
theorem actB6 (nm : ByteArray) (L : List X11) (N : Int) (un : ByteArray) : actB 6 nm L N un = (bareX nm L && decide (N = 0) && decide (un.size = 0)) := rfl
theorem actB_no {K : Int} (nm : ByteArray) (L : List X11) (N : Int) (un : ByteArray) (h1 : K ≠ 1) (h2 : K ≠ 2) (h3 : K ≠ 3) (h4 : K ≠ 4) (h5 : K ≠ 5) (h6 : K ≠ 6) : actB K nm L N un = false := by
  simp [actB, h1, h2, h3, h4, h5, h6]
theorem k_cases (K : Int) : K = 1 ∨ K = 2 ∨ K = 3 ∨ K = 4 ∨ K = 5 ∨ K = 6 ∨ ((K == 1) = false ∧ (K == 2) = false ∧ (K == 3) = false ∧ (K == 4) = false ∧ (K == 5) = false ∧ (K == 6) = false ∧ K ≠ 1 ∧ K ≠ 2 ∧ K ≠ 3 ∧ K ≠ 4 ∧ K ≠ 5 ∧ K ≠ 6) := by
  by_cases h1 : K = 1; · simp [h1]
  by_cases h2 : K = 2; · simp [h2]
  by_cases h3 : K = 3; · simp [h3]
  by_cases h4 : K = 4; · simp [h4]
  by_cases h5 : K = 5; · simp [h5]
  by_cases h6 : K = 6; · simp [h6]
  simp [h1, h2, h3, h4, h5, h6]
theorem emp_t (s : ByteArray) : s.toList.isEmpty = decide (s.size = 0) := by
  by_cases h : s.size = 0
  · rw [decide_eq_true h, empty_of_size h, ByteArray.toList_eq]; rfl
  · rw [isEmpty_false h, decide_eq_false h]
theorem eq0_t (N : Int) : (N == 0) = decide (N = 0) := by
  by_cases h : N = 0 <;> simp [h]
theorem len0_t (n : Nat) : ((n : Int) == 0) = decide (n = 0) := by
  by_cases h : n = 0
  · simp [h]
  · rw [decide_eq_false h]; simpa using h
theorem len0_z (n : Nat) : decide ((n : Int) = 0) = decide (n = 0) := decide_eq_decide.2 (by omega)

theorem isUpTo_any (n m : Int) (w : World) : Calls Tryz.prog 117 #[.int .i64 n, .int .i64 m] w fun e w' => e = .returned (.bool (inB n 0 m)) ∧ w' = w := by
  by_cases h1 : 0 ≤ n
  · have HI : Hid (inB n 0 m = decide (n ≤ m)) := by unfold Hid inB; rw [decide_eq_true h1, Bool.true_and]
    go_enter Tryz.func117, Tryz.ntmps117
    go_wp2
    go_ret
    exact ⟨ret_bool HI.out.symm, rfl⟩
  · have HI : Hid (inB n 0 m = false) := inB_f (by omega)
    go_enter Tryz.func117, Tryz.ntmps117
    go_wp2
    go_ret
    exact ⟨ret_bool HI.out.symm, rfl⟩

set_option maxRecDepth 100000 in
set_option maxHeartbeats 3200000 in
theorem asksFor_any (K : Int) (nm : ByteArray) (a : Option Addr) (cap : Nat) (L : List X11) (N : Int) (un : ByteArray) (w : World) (hkd : nm.size ≤ maxLen) (hr : RdExpr w a L) (hs : ∀ x ∈ L, x.fits) (hm : L.length ≤ 1048580) :
    Calls Tryz.prog 115 #[.agg #[.int .i64 K, .string nm, .slice a L.length cap, .int .i64 N, .string un]] w fun e w' => e = .returned (.bool (namedX nm L)) ∧ Below w.heap.size w w' := by
  have b0 := below_al w (.cells #[.int .i64 K, .string nm, .slice a L.length cap, .int .i64 N, .string un] 69)
  go_enter Tryz.func115, Tryz.ntmps115
  go_wp2_with fail
  refine (namedX_any nm a cap L _ hkd (hr.below b0) hs hm).mono ?_
  rintro e w1 ⟨rfl, hb⟩
  have hB : Below w.heap.size w w1 := b0.trans (hb.mono b0.size)
  go_wp2
  go_ret
  exact ⟨rfl, hB⟩

set_option maxRecDepth 100000 in
set_option maxHeartbeats 3200000 in
theorem asksForNothing_any (K : Int) (nm : ByteArray) (a : Option Addr) (cap : Nat) (L : List X11) (N : Int) (un : ByteArray) (w : World) (hm : L.length ≤ 1048580) :
    Calls Tryz.prog 116 #[.agg #[.int .i64 K, .string nm, .slice a L.length cap, .int .i64 N, .string un]] w fun e w' => e = .returned (.bool (bareX nm L)) ∧ Below w.heap.size w w' := by
  have b0 := below_al w (.cells #[.int .i64 K, .string nm, .slice a L.length cap, .int .i64 N, .string un] 69)
  have HB : Hid (bareX nm L = (decide (nm.size = 0) && decide (L.length = 0))) := rfl
  have hn := emp_t nm
  have hl := len0_t L.length
  generalize decide (nm.size = 0) = x at HB hn
  generalize decide (L.length = 0) = y at HB hl
  cases x
  all_goals
    go_enter Tryz.func116, Tryz.ntmps116
    go_wp2
    go_ret
    exact ⟨by rw [HB.out]; rfl, b0⟩

set_option maxRecDepth 100000 in
set_option maxHeartbeats 3200000 in
theorem implActOk_1 (nm : ByteArray) (a : Option Addr) (cap : Nat) (L : List X11) (N : Int) (un : ByteArray) (w : World) (hkd : nm.size ≤ maxLen) (hr : RdExpr w a L) (hs : ∀ x ∈ L, x.fits) (hm : L.length ≤ 1048580) (hun : un.size ≤ maxLen) :
    Calls Tryz.prog 76 #[.agg #[.int .i64 1, .string nm, .slice a L.length cap, .int .i64 N, .string un]] w fun e w' => e = .returned (.bool (actB 1 nm L N un)) ∧ Below w.heap.size w w' := by
  have b0 := below_al w (.cells #[.int .i64 1, .string nm, .slice a L.length cap, .int .i64 N, .string un] 69)
  have hX := boxk_new w #[.int .i64 1, .string nm, .slice a L.length cap, .int .i64 N, .string un] 69
  have HC := hide (actB1 nm L N un)
  go_enter Tryz.func76, Tryz.ntmps76
  go_wp2_with fail
  refine (asksFor_any 1 nm a cap L N un _ hkd (hr.below b0) hs hm).mono ?_
  rintro e w1 ⟨rfl, hb⟩
  have HX1 := hide (box_step hX hb)
  have hB1 : Below w.heap.size w w1 := b0.trans (hb.mono b0.size)
  have y3 := boxk_cell HX1.out 3 _ rfl
  have y4 := boxk_cell HX1.out 4 _ rfl
  clear hb b0 hX HX1
  generalize namedX nm L = bb at HC ⊢
  have HU := hide hun
  clear hun hkd hs hr
  cases bb
  · go_wp2
    go_ret
    exact ⟨by rw [HC.out]; rfl, hB1⟩
  · by_cases hN : N = 0
    · subst hN
      by_cases hU : un.size = 0
      · obtain rfl := empty_of_size hU
        have H2 : Hid (actB 1 nm L 0 ⟨#[]⟩ = true) := HC.out
        clear hU
        go_wp2
        go_ret
        exact ⟨by rw [H2.out]; rfl, hB1⟩
      · have H2 : Hid (actB 1 nm L 0 un = false) := by unfold Hid; rw [HC.out, decide_eq_false hU]; rfl
        have hE := isEmpty_false hU
        clear hU
        go_wp2
        go_ret
        exact ⟨by rw [H2.out]; rfl, hB1⟩
    · have H2 : Hid (actB 1 nm L N un = false) := by unfold Hid; rw [HC.out, decide_eq_false hN]; rfl
      have k0 : (N == 0) = false := by simpa using hN
      clear hN
      go_wp2
      go_ret
      exact ⟨by rw [H2.out]; rfl, hB1⟩

set_option maxRecDepth 100000 in
set_option maxHeartbeats 3200000 in
theorem implActOk_2 (nm : ByteArray) (a : Option Addr) (cap : Nat) (L : List X11) (N : Int) (un : ByteArray) (w : World) (hkd : nm.size ≤ maxLen) (hr : RdExpr w a L) (hs : ∀ x ∈ L, x.fits) (hm : L.length ≤ 1048580) (hun : un.size ≤ maxLen) :
    Calls Tryz.prog 76 #[.agg #[.int .i64 2, .string nm, .slice a L.length cap, .int .i64 N, .string un]] w fun e w' => e = .returned (.bool (actB 2 nm L N un)) ∧ Below w.heap.size w w' := by
  have b0 := below_al w (.cells #[.int .i64 2, .string nm, .slice a L.length cap, .int .i64 N, .string un] 69)
  have hX := boxk_new w #[.int .i64 2, .string nm, .slice a L.length cap, .int .i64 N, .string un] 69
  have HC := hide (actB2 nm L N un)
  go_enter Tryz.func76, Tryz.ntmps76
  go_wp2_with fail
  refine (asksForNothing_any 2 nm a cap L N un _ hm).mono ?_
  rintro e w1 ⟨rfl, hb⟩
  have HX1 := hide (box_step hX hb)
  have hB1 : Below w.heap.size w w1 := b0.trans (hb.mono b0.size)
  have y3 := boxk_cell HX1.out 3 _ rfl
  have y4 := boxk_cell HX1.out 4 _ rfl
  clear hb b0 hX HX1
  generalize bareX nm L = bb at HC ⊢
  have HU := hide hun
  clear hun hkd hs hr
  cases bb
  · go_wp2
    go_ret
    exact ⟨by rw [HC.out]; rfl, hB1⟩
  · cases hI : inB N 0 7
    · have H2 : Hid (actB 2 nm L N un = false) := by unfold Hid; rw [HC.out, hI]; rfl
      go_wp2_with (go_at_call 117; refine (isUpTo_any _ _ _).mono ?_; rintro e w' ⟨rfl, rfl⟩; rw [hI])
      go_ret
      exact ⟨by rw [H2.out]; rfl, hB1⟩
    · rw [hI] at HC
      by_cases hU : un.size = 0
      · obtain rfl := empty_of_size hU
        have H2 : Hid (actB 2 nm L N ⟨#[]⟩ = true) := HC.out
        clear hU
        go_wp2_with (go_at_call 117; refine (isUpTo_any _ _ _).mono ?_; rintro e w' ⟨rfl, rfl⟩; rw [hI])
        go_ret
        exact ⟨by rw [H2.out]; rfl, hB1⟩
      · have H2 : Hid (actB 2 nm L N un = false) := by unfold Hid; rw [HC.out, decide_eq_false hU]; rfl
        have hE := isEmpty_false hU
        clear hU
        go_wp2_with (go_at_call 117; refine (isUpTo_any _ _ _).mono ?_; rintro e w' ⟨rfl, rfl⟩; rw [hI])
        go_ret
        exact ⟨by rw [H2.out]; rfl, hB1⟩

set_option maxRecDepth 100000 in
set_option maxHeartbeats 3200000 in
theorem implActOk_3 (nm : ByteArray) (a : Option Addr) (cap : Nat) (L : List X11) (N : Int) (un : ByteArray) (w : World) (hkd : nm.size ≤ maxLen) (hr : RdExpr w a L) (hs : ∀ x ∈ L, x.fits) (hm : L.length ≤ 1048580) (hun : un.size ≤ maxLen) :
    Calls Tryz.prog 76 #[.agg #[.int .i64 3, .string nm, .slice a L.length cap, .int .i64 N, .string un]] w fun e w' => e = .returned (.bool (actB 3 nm L N un)) ∧ Below w.heap.size w w' := by
  have b0 := below_al w (.cells #[.int .i64 3, .string nm, .slice a L.length cap, .int .i64 N, .string un] 69)
  have hX := boxk_new w #[.int .i64 3, .string nm, .slice a L.length cap, .int .i64 N, .string un] 69
  have HC := hide (actB3 nm L N un)
  go_enter Tryz.func76, Tryz.ntmps76
  go_wp2_with fail
  refine (asksFor_any 3 nm a cap L N un _ hkd (hr.below b0) hs hm).mono ?_
  rintro e w1 ⟨rfl, hb⟩
  have HX1 := hide (box_step hX hb)
  have hB1 : Below w.heap.size w w1 := b0.trans (hb.mono b0.size)
  have y3 := boxk_cell HX1.out 3 _ rfl
  have y4 := boxk_cell HX1.out 4 _ rfl
  clear hb b0 hX HX1
  generalize namedX nm L = bb at HC ⊢
  have HU := hide hun
  clear hun hkd hs hr
  cases bb
  · go_wp2
    go_ret
    exact ⟨by rw [HC.out]; rfl, hB1⟩
  · by_cases hN : N = 0
    · subst hN
      by_cases hU : un.size = 0
      · obtain rfl := empty_of_size hU
        have H2 : Hid (actB 3 nm L 0 ⟨#[]⟩ = true) := HC.out
        clear hU
        go_wp2
        go_ret
        exact ⟨by rw [H2.out]; rfl, hB1⟩
      · have H2 : Hid (actB 3 nm L 0 un = nameB un) := by unfold Hid; rw [HC.out, decide_eq_false hU]; rfl
        have hE := isEmpty_false hU
        clear hU
        go_wp2_with (go_at_call 27; refine (implNameOk_any _ _ HU.out).mono ?_; rintro e w' ⟨rfl, rfl⟩)
        go_ret
        exact ⟨by rw [H2.out]; rfl, hB1⟩
    · have H2 : Hid (actB 3 nm L N un = false) := by unfold Hid; rw [HC.out, decide_eq_false hN]; rfl
      have k0 : (N == 0) = false := by simpa using hN
      clear hN
      go_wp2
      go_ret
      exact ⟨by rw [H2.out]; rfl, hB1⟩

set_option maxRecDepth 100000 in
set_option maxHeartbeats 3200000 in
theorem implActOk_4 (nm : ByteArray) (a : Option Addr) (cap : Nat) (L : List X11) (N : Int) (un : ByteArray) (w : World) (hkd : nm.size ≤ maxLen) (hr : RdExpr w a L) (hs : ∀ x ∈ L, x.fits) (hm : L.length ≤ 1048580) (hun : un.size ≤ maxLen) :
    Calls Tryz.prog 76 #[.agg #[.int .i64 4, .string nm, .slice a L.length cap, .int .i64 N, .string un]] w fun e w' => e = .returned (.bool (actB 4 nm L N un)) ∧ Below w.heap.size w w' := by
  have b0 := below_al w (.cells #[.int .i64 4, .string nm, .slice a L.length cap, .int .i64 N, .string un] 69)
  have hX := boxk_new w #[.int .i64 4, .string nm, .slice a L.length cap, .int .i64 N, .string un] 69
  have HC := hide (actB4 nm L N un)
  go_enter Tryz.func76, Tryz.ntmps76
  go_wp2_with fail
  refine (asksFor_any 4 nm a cap L N un _ hkd (hr.below b0) hs hm).mono ?_
  rintro e w1 ⟨rfl, hb⟩
  have HX1 := hide (box_step hX hb)
  have hB1 : Below w.heap.size w w1 := b0.trans (hb.mono b0.size)
  have y3 := boxk_cell HX1.out 3 _ rfl
  have y4 := boxk_cell HX1.out 4 _ rfl
  clear hb b0 hX HX1
  generalize namedX nm L = bb at HC ⊢
  have HU := hide hun
  clear hun hkd hs hr
  cases bb
  · go_wp2
    go_ret
    exact ⟨by rw [HC.out]; rfl, hB1⟩
  · cases hI : inB N 0 100000
    · have H2 : Hid (actB 4 nm L N un = false) := by unfold Hid; rw [HC.out, hI]; rfl
      go_wp2_with (go_at_call 117; refine (isUpTo_any _ _ _).mono ?_; rintro e w' ⟨rfl, rfl⟩; rw [hI])
      go_ret
      exact ⟨by rw [H2.out]; rfl, hB1⟩
    · rw [hI] at HC
      by_cases hU : un.size = 0
      · obtain rfl := empty_of_size hU
        have H2 : Hid (actB 4 nm L N ⟨#[]⟩ = true) := HC.out
        clear hU
        go_wp2_with (go_at_call 117; refine (isUpTo_any _ _ _).mono ?_; rintro e w' ⟨rfl, rfl⟩; rw [hI])
        go_ret
        exact ⟨by rw [H2.out]; rfl, hB1⟩
      · have H2 : Hid (actB 4 nm L N un = false) := by unfold Hid; rw [HC.out, decide_eq_false hU]; rfl
        have hE := isEmpty_false hU
        clear hU
        go_wp2_with (go_at_call 117; refine (isUpTo_any _ _ _).mono ?_; rintro e w' ⟨rfl, rfl⟩; rw [hI])
        go_ret
        exact ⟨by rw [H2.out]; rfl, hB1⟩

set_option maxRecDepth 100000 in
set_option maxHeartbeats 3200000 in
theorem implActOk_5 (nm : ByteArray) (a : Option Addr) (cap : Nat) (L : List X11) (N : Int) (un : ByteArray) (w : World) (hkd : nm.size ≤ maxLen) (hr : RdExpr w a L) (hs : ∀ x ∈ L, x.fits) (hm : L.length ≤ 1048580) (hun : un.size ≤ maxLen) :
    Calls Tryz.prog 76 #[.agg #[.int .i64 5, .string nm, .slice a L.length cap, .int .i64 N, .string un]] w fun e w' => e = .returned (.bool (actB 5 nm L N un)) ∧ Below w.heap.size w w' := by
  have b0 := below_al w (.cells #[.int .i64 5, .string nm, .slice a L.length cap, .int .i64 N, .string un] 69)
  have hX := boxk_new w #[.int .i64 5, .string nm, .slice a L.length cap, .int .i64 N, .string un] 69
  have HC := hide (actB5 nm L N un)
  go_enter Tryz.func76, Tryz.ntmps76
  go_wp2_with fail
  refine (asksForNothing_any 5 nm a cap L N un _ hm).mono ?_
  rintro e w1 ⟨rfl, hb⟩
  have HX1 := hide (box_step hX hb)
  have hB1 : Below w.heap.size w w1 := b0.trans (hb.mono b0.size)
  have y3 := boxk_cell HX1.out 3 _ rfl
  have y4 := boxk_cell HX1.out 4 _ rfl
  clear hb b0 hX HX1
  generalize bareX nm L = bb at HC ⊢
  have HU := hide hun
  clear hun hkd hs hr
  cases bb
  · go_wp2
    go_ret
    exact ⟨by rw [HC.out]; rfl, hB1⟩
  · by_cases hN : N = 0
    · subst hN
      by_cases hU : un.size = 0
      · obtain rfl := empty_of_size hU
        have H2 : Hid (actB 5 nm L 0 ⟨#[]⟩ = true) := HC.out
        clear hU
        go_wp2
        go_ret
        exact ⟨by rw [H2.out]; rfl, hB1⟩
      · have H2 : Hid (actB 5 nm L 0 un = false) := by unfold Hid; rw [HC.out, decide_eq_false hU]; rfl
        have hE := isEmpty_false hU
        clear hU
        go_wp2
        go_ret
        exact ⟨by rw [H2.out]; rfl, hB1⟩
    · have H2 : Hid (actB 5 nm L N un = false) := by unfold Hid; rw [HC.out, decide_eq_false hN]; rfl
      have k0 : (N == 0) = false := by simpa using hN
      clear hN
      go_wp2
      go_ret
      exact ⟨by rw [H2.out]; rfl, hB1⟩

set_option maxRecDepth 100000 in
set_option maxHeartbeats 3200000 in
theorem implActOk_6 (nm : ByteArray) (a : Option Addr) (cap : Nat) (L : List X11) (N : Int) (un : ByteArray) (w : World) (hkd : nm.size ≤ maxLen) (hr : RdExpr w a L) (hs : ∀ x ∈ L, x.fits) (hm : L.length ≤ 1048580) (hun : un.size ≤ maxLen) :
    Calls Tryz.prog 76 #[.agg #[.int .i64 6, .string nm, .slice a L.length cap, .int .i64 N, .string un]] w fun e w' => e = .returned (.bool (actB 6 nm L N un)) ∧ Below w.heap.size w w' := by
  have b0 := below_al w (.cells #[.int .i64 6, .string nm, .slice a L.length cap, .int .i64 N, .string un] 69)
  have hX := boxk_new w #[.int .i64 6, .string nm, .slice a L.length cap, .int .i64 N, .string un] 69
  have HC := hide (actB6 nm L N un)
  go_enter Tryz.func76, Tryz.ntmps76
  go_wp2_with fail
  refine (asksForNothing_any 6 nm a cap L N un _ hm).mono ?_
  rintro e w1 ⟨rfl, hb⟩
  have HX1 := hide (box_step hX hb)
  have hB1 : Below w.heap.size w w1 := b0.trans (hb.mono b0.size)
  have y3 := boxk_cell HX1.out 3 _ rfl
  have y4 := boxk_cell HX1.out 4 _ rfl
  clear hb b0 hX HX1
  generalize bareX nm L = bb at HC ⊢
  have HU := hide hun
  clear hun hkd hs hr
  cases bb
  · go_wp2
    go_ret
    exact ⟨by rw [HC.out]; rfl, hB1⟩
  · by_cases hN : N = 0
    · subst hN
      by_cases hU : un.size = 0
      · obtain rfl := empty_of_size hU
        have H2 : Hid (actB 6 nm L 0 ⟨#[]⟩ = true) := HC.out
        clear hU
        go_wp2
        go_ret
        exact ⟨by rw [H2.out]; rfl, hB1⟩
      · have H2 : Hid (actB 6 nm L 0 un = false) := by unfold Hid; rw [HC.out, decide_eq_false hU]; rfl
        have hE := isEmpty_false hU
        clear hU
        go_wp2
        go_ret
        exact ⟨by rw [H2.out]; rfl, hB1⟩
    · have H2 : Hid (actB 6 nm L N un = false) := by unfold Hid; rw [HC.out, decide_eq_false hN]; rfl
      have k0 : (N == 0) = false := by simpa using hN
      clear hN
      go_wp2
      go_ret
      exact ⟨by rw [H2.out]; rfl, hB1⟩

set_option maxRecDepth 100000 in
set_option maxHeartbeats 3200000 in
theorem implActOk_any (K : Int) (nm : ByteArray) (a : Option Addr) (cap : Nat) (L : List X11) (N : Int) (un : ByteArray) (w : World) (hkd : nm.size ≤ maxLen) (hr : RdExpr w a L) (hs : ∀ x ∈ L, x.fits) (hm : L.length ≤ 1048580) (hun : un.size ≤ maxLen) :
    Calls Tryz.prog 76 #[.agg #[.int .i64 K, .string nm, .slice a L.length cap, .int .i64 N, .string un]] w fun e w' => e = .returned (.bool (actB K nm L N un)) ∧ Below w.heap.size w w' := by
  rcases k_cases K with rfl | rfl | rfl | rfl | rfl | rfl | ⟨k1, k2, k3, k4, k5, k6, h1, h2, h3, h4, h5, h6⟩
  · exact implActOk_1 nm a cap L N un w hkd hr hs hm hun
  · exact implActOk_2 nm a cap L N un w hkd hr hs hm hun
  · exact implActOk_3 nm a cap L N un w hkd hr hs hm hun
  · exact implActOk_4 nm a cap L N un w hkd hr hs hm hun
  · exact implActOk_5 nm a cap L N un w hkd hr hs hm hun
  · exact implActOk_6 nm a cap L N un w hkd hr hs hm hun
  · have b0 := below_al w (.cells #[.int .i64 K, .string nm, .slice a L.length cap, .int .i64 N, .string un] 69)
    have HC := hide (actB_no nm L N un h1 h2 h3 h4 h5 h6)
    clear h1 h2 h3 h4 h5 h6
    go_enter Tryz.func76, Tryz.ntmps76
    go_wp2
    go_ret
    exact ⟨by rw [HC.out]; rfl, b0⟩

end Go.Proofs.YtcfhpcbkdpgboaaGreatDoor
/-
  When a rule is right, plainly: ruleB as the model has it, ruleI as the tested program looks at it; they are the same.
-/
namespace Go.Proofs.YtcfhpcbkdpgboaaGreatDoor
open Go.RowKit
set_option linter.unusedVariables false

/-- an argument that is no variable, or one of these -/
def knownB (a : A5) (vs : List ByteArray) : Bool := !decide (a.K = 1) || hasS vs a.S
def PE.okB (p : PE) : Bool := patB p.kd p.L
def C11.okB (c : C11) : Bool := condB c.Op c.L c.R
def QE.okB (a : QE) : Bool := actB a.K a.nm a.L a.N a.un
/-- the model's look at the i-th pattern -/
def stepP (P : List PE) (i : Nat) : Bool := !(decide (2 < i) && !(eAt P i).nt) && ((eAt P i).okB && !(decide (i = 0) && (eAt P i).nt) && !((decide (0 < i) && (eAt P (i - 1)).nt) && !(eAt P i).nt))
def patsB (P : List PE) : Bool := (List.range P.length).all (stepP P) && inB P.length 1 6
def condK (vs : List ByteArray) (c : C11) : Bool := c.okB && knownB c.L vs && knownB c.R vs
def termK (vs : List ByteArray) (e : X11) : Bool := knownB e.L vs && knownB e.R vs
def actK (vs : List ByteArray) (pos : Nat) (a : QE) : Bool := a.okB && !(decide (a.K = 2) && decide ((pos : Int) ≤ a.N)) && a.L.all (termK vs)
def ruleB (x : RE) : Bool :=
  nameB x.nm && inB x.sal (-100) 100 && patsB x.P && (x.C.all (condK (varsB [] (posB x.P))) && decide (x.C.length ≤ 6)) && (x.A.all (actK (varsB [] (posB x.P)) (posB x.P).length) && inB x.A.length 1 6)

/-- the tested program's look: is this argument among those of a pattern that is not Not? -/
def sameA (a b : A5) : Bool := decide (a.K = b.K) && decide (a.S = b.S) && decide (a.V = b.V)
def bindsI (J : List PE) (a : A5) : Bool := !decide (a.K = 1) || J.any (fun p => p.L.any (fun b => sameA a b))
def patsI (P : List PE) : Bool := (inB P.length 1 6 && P.all PE.okB) && (inB (posB P).length 1 3 && (P.take (posB P).length).all (fun p => !p.nt))
def condI (J : List PE) (c : C11) : Bool := c.okB && bindsI J c.L && bindsI J c.R
def termI (J : List PE) (e : X11) : Bool := bindsI J e.L && bindsI J e.R
def actI (J : List PE) (a : QE) : Bool := a.okB && (!decide (a.K = 2) || decide (a.N < (J.length : Int))) && (decide (a.L.length ≤ 5) && a.L.all (termI J))
def ruleI (x : RE) : Bool :=
  nameB x.nm && inB x.sal (-100) 100 && patsI x.P && (decide (x.C.length ≤ 6) && x.C.all (condI (posB x.P))) && (inB x.A.length 1 6 && x.A.all (actI (posB x.P)))

/-- the first c are not Not, all others are -/
def SplitAt (P : List PE) (c : Nat) : Prop := c ≤ P.length ∧ (∀ i, i < c → (eAt P i).nt = false) ∧ ∀ i, c ≤ i → i < P.length → (eAt P i).nt = true
theorem split_pos {P : List PE} {c : Nat} (h : SplitAt P c) : posB P = P.take c := by
  obtain ⟨hc, h1, h2⟩ := h
  have e : P = P.take c ++ P.drop c := (List.take_append_drop c P).symm
  have a1 : posB (P.take c) = P.take c := by
    unfold posB
    rw [List.filter_eq_self]
    intro p hp
    obtain ⟨i, hi, rfl⟩ := List.getElem_of_mem hp
    rw [List.length_take] at hi
    have := h1 i (by omega)
    rw [eAt_in (by omega)] at this
    rw [List.getElem_take, this]; rfl
  have a2 : posB (P.drop c) = [] := by
    unfold posB
    rw [List.filter_eq_nil_iff]
    intro p hp
    obtain ⟨i, hi, rfl⟩ := List.getElem_of_mem hp
    rw [List.length_drop] at hi
    have := h2 (c + i) (by omega) (by omega)
    rw [eAt_in (by omega)] at this
    rw [List.getElem_drop, this]; simp
  have a3 : posB P = posB (P.take c) ++ posB (P.drop c) := by
    unfold posB
    rw [← List.filter_append, List.take_append_drop]
  rw [a3, a1, a2, List.append_nil]
theorem split_of {P : List PE} (h : (P.take (posB P).length).all (fun p => !p.nt) = true) : SplitAt P (posB P).length := by
  have hl := posB_len P
  rw [List.all_eq_true] at h
  have h1 : ∀ i, i < (posB P).length → (eAt P i).nt = false := fun i hi => by
    have hlt : i < (P.take (posB P).length).length := by rw [List.length_take]; omega
    have := h (P.take (posB P).length)[i] (List.getElem_mem hlt)
    rw [List.getElem_take, ← eAt_in] at this
    simpa using this
  refine ⟨hl, h1, fun i hi hi2 => ?_⟩
  obtain ⟨c, hc⟩ : ∃ c, c = (posB P).length := ⟨_, rfl⟩
  rw [← hc] at h1 hi hl
  have a1 : posB (P.take c) = P.take c := by
    unfold posB
    rw [List.filter_eq_self]
    intro p hp
    obtain ⟨j, hj, rfl⟩ := List.getElem_of_mem hp
    rw [List.length_take] at hj
    have := h1 j (by omega)
    rw [eAt_in (by omega)] at this
    rw [List.getElem_take, this]; rfl
  have a3 : posB P = posB (P.take c) ++ posB (P.drop c) := by
    unfold posB
    rw [← List.filter_append, List.take_append_drop]
  have a4 : (posB (P.drop c)).length = 0 := by
    have := congrArg List.length a3
    rw [a1, List.length_append, List.length_take, ← hc] at this
    omega
  have a5 := List.eq_nil_of_length_eq_zero a4
  unfold posB at a5
  rw [List.filter_eq_nil_iff] at a5
  have hlt : i - c < (P.drop c).length := by rw [List.length_drop]; omega
  have := a5 (P.drop c)[i - c] (List.getElem_mem hlt)
  rw [List.getElem_drop] at this
  rw [eAt_in hi2]
  have e : c + (i - c) = i := by omega
  simpa [e] using this
theorem stepP_t {P : List PE} {i : Nat} (h : stepP P i = true) : (2 < i → (eAt P i).nt = true) ∧ (eAt P i).okB = true ∧ (i = 0 → (eAt P i).nt = false) ∧ (0 < i → (eAt P (i - 1)).nt = true → (eAt P i).nt = true) := by
  unfold stepP at h
  simp only [Bool.and_eq_true, Bool.not_eq_true', Bool.and_eq_false_iff, decide_eq_false_iff_not, Bool.not_eq_false'] at h
  obtain ⟨h1, ⟨h2, h3⟩, h4⟩ := h
  refine ⟨fun hi => ?_, h2, fun hi => ?_, fun hi hn => ?_⟩
  · rcases h1 with h1 | h1
    · exact absurd hi h1
    · exact h1
  · rcases h3 with h3 | h3
    · exact absurd hi h3
    · exact h3
  · rcases h4 with h4 | h4
    · rcases h4 with h4 | h4
      · exact absurd hi h4
      · rw [hn] at h4; cases h4
    · exact h4
theorem stepP_of {P : List PE} {i : Nat} (h1 : 2 < i → (eAt P i).nt = true) (h2 : (eAt P i).okB = true) (h3 : i = 0 → (eAt P i).nt = false) (h4 : 0 < i → (eAt P (i - 1)).nt = true → (eAt P i).nt = true) : stepP P i = true := by
  unfold stepP
  simp only [Bool.and_eq_true, Bool.not_eq_true', Bool.and_eq_false_iff, decide_eq_false_iff_not, Bool.not_eq_false']
  refine ⟨?_, ⟨h2, ?_⟩, ?_⟩
  · by_cases h : 2 < i
    · exact .inr (h1 h)
    · exact .inl h
  · by_cases h : i = 0
    · exact .inr (h3 h)
    · exact .inl h
  · by_cases h : 0 < i
    · cases hn : (eAt P (i - 1)).nt
      · exact .inl (.inr rfl)
      · exact .inr (h4 h hn)
    · exact .inl (.inl h)
theorem split_steps {P : List PE} (h : ∀ i, i < P.length → stepP P i = true) : ∃ c, SplitAt P c := by
  have key : ∀ k, k ≤ P.length → ∃ c, c ≤ k ∧ (∀ i, i < c → (eAt P i).nt = false) ∧ ∀ i, c ≤ i → i < k → (eAt P i).nt = true := by
    intro k
    induction k with
    | zero => exact fun _ => ⟨0, Nat.le_refl _, fun i hi => absurd hi (Nat.not_lt_zero _), fun i _ hi => absurd hi (Nat.not_lt_zero _)⟩
    | succ k ih =>
      intro hk
      obtain ⟨c, h1, h2, h3⟩ := ih (by omega)
      cases hn : (eAt P k).nt
      · by_cases hck : c = k
        · subst hck
          exact ⟨c + 1, Nat.le_refl _, fun i hi => by
            by_cases e : i = c
            · rw [e]; exact hn
            · exact h2 i (by omega), fun i hi hi2 => by omega⟩
        · have h5 := h3 (k - 1) (by omega) (by omega)
          have h6 := (stepP_t (h k (by omega))).2.2.2 (by omega) h5
          rw [hn] at h6; cases h6
      · exact ⟨c, by omega, h2, fun i hi hi2 => by
          by_cases e : i = k
          · rw [e]; exact hn
          · exact h3 i hi (by omega)⟩
  obtain ⟨c, h1, h2, h3⟩ := key P.length (Nat.le_refl _)
  exact ⟨c, h1, h2, h3⟩
theorem all_eAt {α : Type} [Inhabited α] {L : List α} {p : α → Bool} : L.all p = true ↔ ∀ i, i < L.length → p (eAt L i) = true := by
  rw [List.all_eq_true]
  exact ⟨fun h i hi => h _ (eAt_mem hi), fun h x hx => by obtain ⟨i, hi, rfl⟩ := mem_eAt hx; exact h i hi⟩
theorem inB_iff {x a b : Int} : inB x a b = true ↔ a ≤ x ∧ x ≤ b := by unfold inB; simp
theorem patsB_I (P : List PE) : patsB P = patsI P := by
  rw [Bool.eq_iff_iff]
  unfold patsB patsI
  simp only [Bool.and_eq_true, inB_iff, List.all_eq_true, List.mem_range]
  constructor
  · rintro ⟨h, hl⟩
    obtain ⟨c, hs⟩ := split_steps h
    have hp := split_pos hs
    obtain ⟨hc, s1, s2⟩ := hs
    have hcl : (posB P).length = c := by rw [hp, List.length_take]; omega
    have h0 : 0 < c := by
      rcases Nat.eq_zero_or_pos c with e | e
      · have a := s2 0 (by omega) (by omega)
        have b := (stepP_t (h 0 (by omega))).2.2.1 rfl
        rw [a] at b; cases b
      · exact e
    have h3 : c ≤ 3 := by
      rcases Nat.lt_or_ge 3 c with e | e
      · have a := s1 3 e
        have b := (stepP_t (h 3 (by omega))).1 (by omega)
        rw [a] at b; cases b
      · exact e
    refine ⟨⟨hl, fun p hp => ?_⟩, by rw [hcl]; omega, fun p hpp => ?_⟩
    · obtain ⟨i, hi, rfl⟩ := mem_eAt hp
      exact (stepP_t (h i hi)).2.1
    · rw [hcl] at hpp
      obtain ⟨i, hi, rfl⟩ := List.getElem_of_mem hpp
      rw [List.length_take] at hi
      have := s1 i (by omega)
      rw [eAt_in (by omega)] at this
      rw [List.getElem_take, this]; rfl
  · rintro ⟨⟨hl, hok⟩, hc, hall⟩
    obtain ⟨h1, s1, s2⟩ := split_of (P := P) (List.all_eq_true.2 hall)
    refine ⟨fun i hi => stepP_of (fun h => s2 i (by omega) hi) (hok _ (eAt_mem hi)) (fun h => s1 i (by omega)) (fun h hn => ?_), hl⟩
    by_cases e : i < (posB P).length
    · rw [s1 (i - 1) (by omega)] at hn; cases hn
    · exact s2 i (by omega) hi

theorem names_mem {L : List A5} {s : ByteArray} : s ∈ namesOf L ↔ ∃ b ∈ L, b.K = 1 ∧ b.S = s := by
  unfold namesOf
  rw [List.mem_map]
  constructor
  · rintro ⟨b, hb, e⟩
    rw [List.mem_filter] at hb
    exact ⟨b, hb.1, by simpa using hb.2, e⟩
  · rintro ⟨b, hb, h1, e⟩
    exact ⟨b, List.mem_filter.2 ⟨hb, by simpa using h1⟩, e⟩
theorem addS_mem_iff {l : List ByteArray} {x y : ByteArray} : x ∈ addS l y ↔ x ∈ l ∨ x = y := by
  unfold addS
  by_cases h : hasS l y = true
  · rw [if_pos h]
    exact ⟨.inl, fun h2 => h2.elim id (fun e => by rw [e]; exact hasS_mem.1 h)⟩
  · rw [if_neg h]; simp
theorem adds_mem_iff {x : ByteArray} : ∀ (s l : List ByteArray), x ∈ adds l s ↔ x ∈ l ∨ x ∈ s
  | [], l => by simp [adds]
  | y :: r, l => by
    have e : adds l (y :: r) = adds (addS l y) r := rfl
    rw [e, adds_mem_iff r, addS_mem_iff, List.mem_cons, or_assoc]
theorem varsB_mem {s : ByteArray} : ∀ (J : List PE) (l : List ByteArray), s ∈ varsB l J ↔ s ∈ l ∨ ∃ p ∈ J, ∃ b ∈ p.L, b.K = 1 ∧ b.S = s
  | [], l => by simp [varsB]
  | p :: r, l => by
    have e : varsB l (p :: r) = varsB (varsF l p.L) r := rfl
    rw [e, varsB_mem r, varsF_names, adds_mem_iff, names_mem, or_assoc]
    simp only [List.mem_cons, exists_eq_or_imp]
/-- a variable that is right has no more than its kind and its name -/
theorem ok_var {a : A5} (h : a.ok = true) (h1 : a.K = 1) : a.V = zV := by
  obtain ⟨K, S, V⟩ := a
  simp only at h1
  subst h1
  have e : A5.ok ⟨1, S, V⟩ = (varB S && decide (V = zV)) := rfl
  rw [e, Bool.and_eq_true] at h
  simpa using h.2
theorem sameA_t {a b : A5} (h : sameA a b = true) : a = b := by
  unfold sameA at h
  simp only [Bool.and_eq_true, decide_eq_true_eq] at h
  obtain ⟨⟨h1, h2⟩, h3⟩ := h
  cases a; cases b
  simp only at h1 h2 h3
  rw [h1, h2, h3]
theorem sameA_refl (a : A5) : sameA a a = true := by simp [sameA]
theorem known_I {J : List PE} {a : A5} (hJ : ∀ p ∈ J, ∀ b ∈ p.L, b.ok = true) (ha : a.K = 1 → a.V = zV) : bindsI J a = knownB a (varsB [] J) := by
  unfold bindsI knownB
  by_cases h1 : a.K = 1
  · rw [decide_eq_true h1]
    simp only [Bool.not_true, Bool.false_or]
    rw [Bool.eq_iff_iff, hasS_mem, varsB_mem]
    simp only [List.any_eq_true, List.not_mem_nil, false_or]
    constructor
    · rintro ⟨p, hp, b, hb, h⟩
      have := sameA_t h
      subst this
      exact ⟨p, hp, a, hb, h1, rfl⟩
    · rintro ⟨p, hp, b, hb, e1, e2⟩
      refine ⟨p, hp, b, hb, ?_⟩
      have hv := ok_var (hJ p hp b hb) e1
      unfold sameA
      rw [h1, e1, e2, hv, ha h1]
      simp
  · rw [decide_eq_false h1]; rfl
theorem may_var {K : Int} {S : ByteArray} {V : V3} (h : mayB K S V = true) (h1 : K = 1) : V = zV := by
  unfold mayB at h
  rw [Bool.and_eq_true] at h
  exact ok_var (a := ⟨K, S, V⟩) h.1 h1
theorem cond_var {c : C11} (h : c.okB = true) : (c.L.K = 1 → c.L.V = zV) ∧ (c.R.K = 1 → c.R.V = zV) := by
  unfold C11.okB condB at h
  simp only [Bool.and_eq_true] at h
  exact ⟨may_var h.2.1, may_var h.2.2⟩
theorem condK_I {J : List PE} (hJ : ∀ p ∈ J, ∀ b ∈ p.L, b.ok = true) (c : C11) : condI J c = condK (varsB [] J) c := by
  unfold condI condK
  cases h : c.okB
  · rfl
  · rw [known_I hJ (cond_var h).1, known_I hJ (cond_var h).2]
theorem expr_var {e : X11} (h : e.ok = true) : (e.L.K = 1 → e.L.V = zV) ∧ (e.R.K = 1 → e.R.V = zV) := by
  obtain ⟨Op, L, R⟩ := e
  have h : exprB Op L R = true := h
  show (L.K = 1 → L.V = zV) ∧ (R.K = 1 → R.V = zV)
  unfold exprB at h
  by_cases h0 : Op.size = 0
  · rw [if_pos h0, Bool.and_eq_true] at h
    refine ⟨may_var h.1, fun hk => ?_⟩
    have h2 := h.2
    unfold noArg at h2
    simp only [Bool.and_eq_true, decide_eq_true_eq] at h2
    exact h2.2
  · rw [if_neg h0] at h
    split at h
    · rw [Bool.and_eq_true] at h
      exact ⟨may_var h.1, may_var h.2⟩
    · cases h
theorem termK_I {J : List PE} (hJ : ∀ p ∈ J, ∀ b ∈ p.L, b.ok = true) {e : X11} (h : e.ok = true) : termI J e = termK (varsB [] J) e := by
  unfold termI termK
  rw [known_I hJ (expr_var h).1, known_I hJ (expr_var h).2]
theorem bareX_t {nm : ByteArray} {L : List X11} (h : bareX nm L = true) : L = [] := by
  unfold bareX at h
  simp only [Bool.and_eq_true, decide_eq_true_eq] at h
  exact List.eq_nil_of_length_eq_zero h.2
theorem namedX_t {nm : ByteArray} {L : List X11} (h : namedX nm L = true) : L.length ≤ 5 ∧ ∀ e ∈ L, e.ok = true := by
  unfold namedX at h
  simp only [Bool.and_eq_true, decide_eq_true_eq, List.all_eq_true] at h
  exact ⟨h.1.2, h.2⟩
theorem bare_terms {nm : ByteArray} {L : List X11} (h : bareX nm L = true) : L.length ≤ 5 ∧ ∀ e ∈ L, e.ok = true := by
  rw [bareX_t h]
  exact ⟨by simp, fun e he => by cases he⟩
theorem act_terms {K : Int} {nm : ByteArray} {L : List X11} {N : Int} {un : ByteArray} (h : actB K nm L N un = true) : L.length ≤ 5 ∧ ∀ e ∈ L, e.ok = true := by
  unfold actB at h
  split at h
  · simp only [Bool.and_eq_true] at h; exact namedX_t h.1.1
  split at h
  · simp only [Bool.and_eq_true] at h; exact bare_terms h.1.1
  split at h
  · simp only [Bool.and_eq_true] at h; exact namedX_t h.1.1
  split at h
  · simp only [Bool.and_eq_true] at h; exact namedX_t h.1.1
  split at h
  · simp only [Bool.and_eq_true] at h; exact bare_terms h.1.1
  · cases h
theorem all_cong {α : Type} {p q : α → Bool} {L : List α} (h : ∀ x ∈ L, p x = q x) : L.all p = L.all q := by
  rw [Bool.eq_iff_iff, List.all_eq_true, List.all_eq_true]
  exact ⟨fun k x hx => by rw [← h x hx]; exact k x hx, fun k x hx => by rw [h x hx]; exact k x hx⟩
theorem drop_same (K N : Int) (n : Nat) : (!decide (K = 2) || decide (N < (n : Int))) = !(decide (K = 2) && decide ((n : Int) ≤ N)) := by
  by_cases h : K = 2
  · by_cases h2 : N < (n : Int)
    · rw [decide_eq_true h, decide_eq_true h2, decide_eq_false (by omega)]; rfl
    · rw [decide_eq_true h, decide_eq_false h2, decide_eq_true (by omega)]; rfl
  · rw [decide_eq_false h]; rfl
theorem actK_I {J : List PE} (hJ : ∀ p ∈ J, ∀ b ∈ p.L, b.ok = true) (a : QE) : actI J a = actK (varsB [] J) J.length a := by
  unfold actI actK
  cases h : a.okB
  · rfl
  · obtain ⟨h1, h2⟩ := act_terms (show actB a.K a.nm a.L a.N a.un = true from h)
    rw [drop_same, decide_eq_true h1, all_cong (fun e he => termK_I hJ (h2 e he))]
    simp
theorem ruleB_I (x : RE) : ruleB x = ruleI x := by
  unfold ruleB ruleI
  rw [← patsB_I]
  cases h : patsB x.P
  · simp
  · have hok : ∀ p ∈ posB x.P, ∀ b ∈ p.L, b.ok = true := fun p hp b hb => by
      rw [patsB_I] at h
      unfold patsI at h
      simp only [Bool.and_eq_true, List.all_eq_true] at h
      have h2 : patB p.kd p.L = true := h.1.2 p (List.mem_filter.1 hp).1
      unfold patB at h2
      simp only [Bool.and_eq_true, List.all_eq_true] at h2
      exact h2.2 b hb
    rw [all_cong (fun c _ => condK_I hok c), all_cong (fun a _ => actK_I hok a), Bool.and_comm (x.C.all _), Bool.and_comm (x.A.all _)]
/-- the same by what is plain -/
theorem stepP_pl {K J : List PE} (h : K.map PE.pl = J.map PE.pl) {i : Nat} (hi : i < K.length) : stepP K i = stepP J i := by
  have e1 := PE.pl_inj (map_at h hi)
  have e2 := PE.pl_inj (map_at h (i := i - 1) (by omega))
  unfold stepP PE.okB
  rw [e1.1, e1.2.1, e1.2.2, e2.2.2]
theorem patsB_pl {K J : List PE} (h : K.map PE.pl = J.map PE.pl) : patsB K = patsB J := by
  unfold patsB
  rw [← map_len h]
  rw [all_cong (fun i hi => stepP_pl h (List.mem_range.1 hi))]
theorem acts_pl {K J : List QE} (h : K.map QE.pl = J.map QE.pl) (vs : List ByteArray) (n : Nat) : K.all (actK vs n) = J.all (actK vs n) := by
  have e : ∀ L : List QE, L.all (actK vs n) = (L.map QE.pl).all (fun a => actB a.K a.nm a.L a.N a.un && !(decide (a.K = 2) && decide ((n : Int) ≤ a.N)) && a.L.all (termK vs)) := fun L => by
    rw [List.all_map]; rfl
  rw [e, e, h]
theorem ruleB_pl {x y : RE} (h : y.pl = x.pl) : ruleB y = ruleB x := by
  obtain ⟨e1, e2, e3, e4, e5⟩ := RE.pl_inj h
  unfold ruleB
  rw [e1, e2, patsB_pl e3, e4, varsB_pl (posB_pl e3), map_len (posB_pl e3), acts_pl e5, map_len e5]
end Go.Proofs.YtcfhpcbkdpgboaaGreatDoor
/-
  What the tested program's look at a variable answers: bindsI, of the patterns that are not Not.
-/
namespace Go.Proofs.YtcfhpcbkdpgboaaGreatDoor
open Go.RowKit
set_option linter.unusedVariables false

theorem any_yes {α : Type} [Inhabited α] {L : List α} {p : α → Bool} {k : Nat} (hk : k < L.length) (h : p (eAt L k) = true) : L.any p = true := by
  rw [List.any_eq_true]; exact ⟨_, eAt_mem hk, h⟩
theorem any_no {α : Type} [Inhabited α] {L : List α} {p : α → Bool} (h : ∀ j, j < L.length → p (eAt L j) = false) : L.any p = false := by
  rw [Bool.eq_false_iff]
  intro ht
  rw [List.any_eq_true] at ht
  obtain ⟨x, hx, e⟩ := ht
  obtain ⟨j, hj, rfl⟩ := mem_eAt hx
  rw [h j hj] at e; cases e

/-- two arguments are the same, or part at one of their cells -/
theorem a5_cases (x y : A5) : x = y ∨ (sameA x y = false ∧ ((x.K == y.K) = false ∨ ((x.K == y.K) = true ∧ (x.S.toList == y.S.toList) = false) ∨ ((x.K == y.K) = true ∧ (x.S.toList == y.S.toList) = true ∧ (x.V.K == y.V.K) = false) ∨ ((x.K == y.K) = true ∧ (x.S.toList == y.S.toList) = true ∧ (x.V.K == y.V.K) = true ∧ (x.V.N == y.V.N) = false) ∨
    ((x.K == y.K) = true ∧ (x.S.toList == y.S.toList) = true ∧ (x.V.K == y.V.K) = true ∧ (x.V.N == y.V.N) = true ∧ (x.V.S.toList == y.V.S.toList) = false))) := by
  by_cases e : x = y
  · exact .inl e
  · refine .inr ⟨Bool.eq_false_iff.2 (fun h => e (sameA_t h)), ?_⟩
    obtain ⟨K, S, V⟩ := x
    obtain ⟨K', S', U⟩ := y
    show (K == K') = false ∨ ((K == K') = true ∧ (S.toList == S'.toList) = false) ∨ ((K == K') = true ∧ (S.toList == S'.toList) = true ∧ (V.K == U.K) = false) ∨ ((K == K') = true ∧ (S.toList == S'.toList) = true ∧ (V.K == U.K) = true ∧ (V.N == U.N) = false) ∨ ((K == K') = true ∧ (S.toList == S'.toList) = true ∧ (V.K == U.K) = true ∧ (V.N == U.N) = true ∧ (V.S.toList == U.S.toList) = false)
    by_cases h1 : K = K'
    · have k1 : (K == K') = true := by simpa using h1
      by_cases h2 : S = S'
      · have k2 : (S.toList == S'.toList) = true := by rw [h2]; simp
        have h3 : V ≠ U := fun h3 => e (by rw [h1, h2, h3])
        rcases v3_cases V U with h | ⟨-, h | ⟨h, h'⟩ | ⟨h, h', h''⟩⟩
        · exact absurd h h3
        · exact .inr (.inr (.inl ⟨k1, k2, h⟩))
        · exact .inr (.inr (.inr (.inl ⟨k1, k2, h, h'⟩)))
        · exact .inr (.inr (.inr (.inr ⟨k1, k2, h, h', h''⟩)))
      · exact .inr (.inl ⟨k1, beq_neS h2⟩)
    · exact .inl (by simpa using h1)

set_option maxRecDepth 100000 in
set_option maxHeartbeats 1600000 in
theorem indexA_any (a : Option Addr) (n cap : Nat) (L : List A5) (x : A5) (w : World) (hz : L.length = n) (hr : RdArg w a L) (hn : n ≤ 1048580) :
    Calls Tryz.prog 161 #[.slice a n cap, .agg #[.int .i64 x.K, .string x.S, .int .i64 x.V.K, .int .i64 x.V.N, .string x.V.S]] w fun e w' => (∃ r : Int, e = .returned (.int .i64 r) ∧ decide (0 ≤ r) = L.any (sameA x)) ∧ Below w.heap.size w w' := by
  have HZ := hide hz
  clear hz
  have b0 := below_al w (.cells #[.int .i64 x.K, .string x.S, .int .i64 x.V.K, .int .i64 x.V.N, .string x.V.S] 63)
  have hX := boxk_new w #[.int .i64 x.K, .string x.S, .int .i64 x.V.K, .int .i64 x.V.N, .string x.V.S] 63
  have hzz : w.heap.size < (w.alloc (.cells #[.int .i64 x.K, .string x.S, .int .i64 x.V.K, .int .i64 x.V.N, .string x.V.S] 63)).heap.size := by simp
  go_enter Tryz.func161, Tryz.ntmps161
  go_wp2
  generalize w.alloc (.cells #[.int .i64 x.K, .string x.S, .int .i64 x.V.K, .int .i64 x.V.N, .string x.V.S] 63) = w1 at b0 hX hzz ⊢
  go_loopw [8] (fun i wr => ∃ (k : Nat), k ≤ n ∧ i = .int .i64 k ∧ (∀ j, j < k → sameA x (eAt L j) = false) ∧ Below w1.heap.size w1 wr) (fun i _ => n - (intOf i).toNat)
  case atStart => exact ⟨0, Nat.zero_le _, rfl, fun j hj => absurd hj (Nat.not_lt_zero _), Below.refl _ _⟩
  case round =>
    obtain ⟨k, hk, rfl, hall, hbel⟩ := hrel
    have HA := hide hall
    clear hall
    have HB1 := hide (b0.trans (hbel.mono b0.size))
    by_cases hlt : k < n
    · obtain ⟨b, off, hab, hbw, hc⟩ := RdArg.cells (hr.below HB1.out) (by rw [HZ.out]; omega)
      obtain ⟨c0, c1, c2, c3, c4⟩ := hc k (by rw [HZ.out]; exact hlt)
      clear hc
      subst hab
      have HX := hide (box_below hX hbel hzz)
      have x0 := boxk_cell HX.out 0 _ rfl
      have x1 := boxk_cell HX.out 1 _ rfl
      have x2 := boxk_cell HX.out 2 _ rfl
      have x3 := boxk_cell HX.out 3 _ rfl
      have x4 := boxk_cell HX.out 4 _ rfl
      have l1 : (k : Int) < (n : Int) := by omega
      have HY := hide (any_yes (p := sameA x) (L := L) (k := k) (by rw [HZ.out]; exact hlt))
      have HNk : Hid (sameA x (eAt L k) = false → ∀ j, j < k + 1 → sameA x (eAt L j) = false) := fun h j hj => by
        by_cases e : j = k
        · rw [e]; exact h
        · exact HA.out j (by omega)
      generalize eAt L k = y at c0 c1 c2 c3 c4 HY HNk
      have HBd := hide hbel.drew
      clear hbel
      rcases a5_cases x y with rfl | ⟨hs, hv⟩
      · have HV := hide (HY.out (sameA_refl x))
        clear HY HNk
        have k1 : (x.K == x.K) = true := by simp
        have k2 : (x.S.toList == x.S.toList) = true := by simp
        have k3 : (x.V.K == x.V.K) = true := by simp
        have k4 : (x.V.N == x.V.N) = true := by simp
        have k5 : (x.V.S.toList == x.V.S.toList) = true := by simp
        go_wp2
        go_region_with (fail)
        all_goals
          go_wp2
          go_ret
          exact ⟨⟨k, rfl, by rw [HV.out]; simp⟩, HB1.out.drew⟩
      · have HN2 := hide (HNk.out hs)
        clear HY HNk hs
        rcases hv with k1 | ⟨k1, k2⟩ | ⟨k1, k2, k3⟩ | ⟨k1, k2, k3, k4⟩ | ⟨k1, k2, k3, k4, k5⟩
        all_goals
          go_wp2
          go_region_with (fail)
          all_goals
            go_wp2
            go_roundw
            case rel => exact ⟨k + 1, by omega, by go_num, HN2.out, HBd.out⟩
            case measure => simp [intOf]; omega
    · have HV := hide (any_no (p := sameA x) (L := L) (fun j hj => HA.out j (by rw [HZ.out] at hj; omega)))
      go_wp2
      go_ret
      exact ⟨⟨-1, rfl, by rw [HV.out]; rfl⟩, HB1.out⟩

set_option maxRecDepth 100000 in
theorem containsA_any (a : Option Addr) (n cap : Nat) (L : List A5) (x : A5) (w : World) (hz : L.length = n) (hr : RdArg w a L) (hn : n ≤ 1048580) :
    Calls Tryz.prog 135 #[.slice a n cap, .agg #[.int .i64 x.K, .string x.S, .int .i64 x.V.K, .int .i64 x.V.N, .string x.V.S]] w fun e w' => e = .returned (.bool (L.any (sameA x))) ∧ Below w.heap.size w w' := by
  have b0 := below_al w (.cells #[.int .i64 x.K, .string x.S, .int .i64 x.V.K, .int .i64 x.V.N, .string x.V.S] 63)
  go_enter Tryz.func135, Tryz.ntmps135
  go_wp2_with fail
  refine (indexA_any a n cap L x _ hz (hr.below b0) hn).mono ?_
  rintro e w1 ⟨⟨r, rfl, h⟩, hb⟩
  have H := hide h
  have hB : Below w.heap.size w w1 := b0.trans (hb.mono b0.size)
  clear h hb b0
  go_wp2
  go_ret
  exact ⟨ret_bool H.out, hB⟩

set_option maxRecDepth 100000 in
theorem bindsLit_any (kd : ByteArray) (a : Option Addr) (cap : Nat) (L : List A5) (nt : Bool) (x : A5) (q : Nat) (w : World) (hr : RdArg w a L) (hn : L.length ≤ 1048576) (hq : w.heap[q]? = some (.cells #[.int .i64 x.K, .string x.S, .int .i64 x.V.K, .int .i64 x.V.N, .string x.V.S] 63 (0, 0))) :
    Calls Tryz.prog 134 #[.agg #[.string kd, .slice a L.length cap, .bool nt], .pointer (some ⟨q, 0, none⟩)] w fun e w' => e = .returned (.bool (L.any (sameA x))) ∧ Below w.heap.size w w' := by
  have b0 := below_al w (.cells #[.string kd, .slice a L.length cap, .bool nt] 58)
  have hX := box_step hq b0
  have x0 := boxk_cell hX 0 _ rfl
  have x1 := boxk_cell hX 1 _ rfl
  have x2 := boxk_cell hX 2 _ rfl
  have x3 := boxk_cell hX 3 _ rfl
  have x4 := boxk_cell hX 4 _ rfl
  go_enter Tryz.func134, Tryz.ntmps134
  go_wp2_with fail
  refine (containsA_any a L.length cap L x _ rfl (hr.below b0) (by omega)).mono ?_
  rintro e w1 ⟨rfl, hb⟩
  have hB : Below w.heap.size w w1 := b0.trans (hb.mono b0.size)
  clear hb b0 hX x0 x1 x2 x3 x4
  go_wp2
  go_ret
  exact ⟨rfl, hB⟩

set_option maxRecDepth 100000 in
set_option maxHeartbeats 1600000 in
theorem indexP_any (a : Option Addr) (n cap : Nat) (J : List PE) (x : A5) (q : Nat) (w : World) (hz : J.length = n) (hr : RdPatS w a J) (hs : ∀ p ∈ J, p.small) (hn : n ≤ 1048580) (hq : w.heap[q]? = some (.cells #[.int .i64 x.K, .string x.S, .int .i64 x.V.K, .int .i64 x.V.N, .string x.V.S] 63 (0, 0))) :
    Calls Tryz.prog 160 #[.slice a n cap, .func (.func 134) #[] #[.pointer (some ⟨q, 0, none⟩)]] w fun e w' => (∃ r : Int, e = .returned (.int .i64 r) ∧ decide (0 ≤ r) = J.any (fun p => p.L.any (sameA x))) ∧ Below w.heap.size w w' := by
  have HZ := hide hz
  have HS := hide hs
  have HQ := hide hq
  clear hz hs hq
  go_enter Tryz.func160, Tryz.ntmps160
  go_wp2
  go_loopw [8] (fun i wr => ∃ (k : Nat), k ≤ n ∧ i = .int .i64 k ∧ (∀ j, j < k → (eAt J j).L.any (sameA x) = false) ∧ Below w.heap.size w wr) (fun i _ => n - (intOf i).toNat)
  case atStart => exact ⟨0, Nat.zero_le _, rfl, fun j hj => absurd hj (Nat.not_lt_zero _), Below.refl _ _⟩
  case round =>
    obtain ⟨k, hk, rfl, hall, hbel⟩ := hrel
    have HA := hide hall
    clear hall
    by_cases hlt : k < n
    · have hlL : k < J.length := by rw [HZ.out]; exact hlt
      obtain ⟨b, off, hab, hbw, hc⟩ := (hr.below hbel).cells (by omega)
      obtain ⟨c0, c1, c2, hin⟩ := hc k hlL
      clear hc
      subst hab
      have hL := (HS.out _ (eAt_mem hlL)).2.1
      have HY := hide (any_yes (p := fun p : PE => p.L.any (sameA x)) (L := J) hlL)
      have HNk : Hid ((eAt J k).L.any (sameA x) = false → ∀ j, j < k + 1 → (eAt J j).L.any (sameA x) = false) := fun h j hj => by
        by_cases e : j = k
        · rw [e]; exact h
        · exact HA.out j (by omega)
      have HQr := hide (box_step HQ.out hbel)
      have HIn := hide hin
      clear hin
      generalize eAt J k = y at c0 c1 c2 HIn HY HNk hL
      obtain ⟨kd, ya, yc, L, nt⟩ := y
      simp only at c0 c1 c2 HIn HY HNk hL
      go_wp2_with fail
      refine (bindsLit_any kd ya yc L nt x q _ HIn.out hL HQr.out).mono ?_
      rintro e w2 ⟨rfl, hb2⟩
      have hbel2 : Below w.heap.size w w2 := hbel.trans (hb2.mono hbel.size)
      clear hb2 c0 c1 c2 HIn hbel HQr
      generalize L.any (sameA x) = bb at HY HNk ⊢
      cases bb
      · have HN2 := hide (HNk.out rfl)
        clear HY HNk
        go_wp2
        go_roundw
        case rel => exact ⟨k + 1, by omega, by go_num, HN2.out, hbel2⟩
        case measure => simp [intOf]; omega
      · have HV := hide (HY.out rfl)
        clear HY HNk
        go_wp2
        go_ret
        exact ⟨⟨k, rfl, by rw [HV.out]; simp⟩, hbel2⟩
    · have HV := hide (any_no (p := fun p : PE => p.L.any (sameA x)) (L := J) (fun j hj => HA.out j (by rw [HZ.out] at hj; omega)))
      go_wp2
      go_ret
      exact ⟨⟨-1, rfl, by rw [HV.out]; rfl⟩, hbel⟩

set_option maxRecDepth 100000 in
theorem containsP_any (a : Option Addr) (n cap : Nat) (J : List PE) (x : A5) (q : Nat) (w : World) (hz : J.length = n) (hr : RdPatS w a J) (hs : ∀ p ∈ J, p.small) (hn : n ≤ 1048580) (hq : w.heap[q]? = some (.cells #[.int .i64 x.K, .string x.S, .int .i64 x.V.K, .int .i64 x.V.N, .string x.V.S] 63 (0, 0))) :
    Calls Tryz.prog 133 #[.slice a n cap, .func (.func 134) #[] #[.pointer (some ⟨q, 0, none⟩)]] w fun e w' => e = .returned (.bool (J.any (fun p => p.L.any (sameA x)))) ∧ Below w.heap.size w w' := by
  go_enter Tryz.func133, Tryz.ntmps133
  go_wp2_with fail
  refine (indexP_any a n cap J x q _ hz hr hs hn hq).mono ?_
  rintro e w1 ⟨⟨r, rfl, h⟩, hb⟩
  have H := hide h
  clear h
  go_wp2
  go_ret
  exact ⟨ret_bool H.out, hb⟩

set_option maxRecDepth 100000 in
set_option maxHeartbeats 1600000 in
theorem binds_any (a : Option Addr) (n cap : Nat) (J : List PE) (K : Int) (S : ByteArray) (VK VN : Int) (VS : ByteArray) (w : World) (hz : J.length = n) (hr : RdPatS w a J) (hs : ∀ p ∈ J, p.small) (hn : n ≤ 1048580) :
    Calls Tryz.prog 99 #[.slice a n cap, .agg #[.int .i64 K, .string S, .int .i64 VK, .int .i64 VN, .string VS]] w fun e w' => e = .returned (.bool (bindsI J ⟨K, S, ⟨VK, VN, VS⟩⟩)) ∧ Below w.heap.size w w' := by
  have HB : Hid (bindsI J ⟨K, S, ⟨VK, VN, VS⟩⟩ = (!decide (K = 1) || J.any (fun p => p.L.any (sameA ⟨K, S, ⟨VK, VN, VS⟩⟩)))) := rfl
  have b0 := below_al w (.cells #[.int .i64 K, .string S, .int .i64 VK, .int .i64 VN, .string VS] 63)
  have hX := boxk_new w #[.int .i64 K, .string S, .int .i64 VK, .int .i64 VN, .string VS] 63
  have hmf : ∀ (fn : Fn) (first cap : Array Value) (w : World), (Instr.makeFunc fn first cap).run Tryz.prog w = .ok (.func fn first cap) w := fun _ _ _ _ => rfl
  by_cases h1 : K = 1
  · subst h1
    go_enter Tryz.func99, Tryz.ntmps99
    go_wp2_with fail
    refine (containsP_any a n cap J ⟨1, S, ⟨VK, VN, VS⟩⟩ w.heap.size _ hz (hr.below b0) hs hn hX).mono ?_
    rintro e w1 ⟨rfl, hb⟩
    have hB : Below w.heap.size w w1 := b0.trans (hb.mono b0.size)
    clear hb b0 hX
    generalize J.any (fun p => p.L.any (sameA ⟨1, S, ⟨VK, VN, VS⟩⟩)) = bb at HB ⊢
    go_wp2
    go_ret
    exact ⟨by rw [HB.out]; rfl, hB⟩
  · have k1 : (K != 1) = true := by simpa using h1
    have HF : Hid (bindsI J ⟨K, S, ⟨VK, VN, VS⟩⟩ = true) := by unfold Hid; rw [HB.out, decide_eq_false h1]; rfl
    clear hX h1
    go_enter Tryz.func99, Tryz.ntmps99
    go_wp2
    go_ret
    exact ⟨by rw [HF.out]; rfl, b0⟩
end Go.Proofs.YtcfhpcbkdpgboaaGreatDoor
/-
  What the tested functions answer: boundRuleOf has the patterns that are not Not, PosCount how many, PosVars their variables, KindsOf all kinds.
-/
namespace Go.Proofs.YtcfhpcbkdpgboaaGreatDoor
open Go.RowKit
set_option linter.unusedVariables false

theorem infoPat : (Tryz.prog.info? 58).map (fun i => (i.zero, i.size, i.bytes)) = some (some (.agg #[.string ⟨#[]⟩, .slice none 0 0, .bool false]), 3, 48) := by kernel_rfl
theorem srcPE (W : World) (x : PE) : ∀ j u, (x.cs)[j]? = some u → (W.alloc (.cells #[.string x.kd, .slice x.a x.L.length x.cap, .bool x.nt] 58)).cell? ((⟨W.heap.size, 0, none⟩ : Addr).add j) = some u := by
  intro j u hj
  rw [Addr.add_lit, Nat.zero_add]
  have hb : (W.alloc (.cells #[.string x.kd, .slice x.a x.L.length x.cap, .bool x.nt] 58)).heap[W.heap.size]? = some (.cells #[.string x.kd, .slice x.a x.L.length x.cap, .bool x.nt] 58 (0, 0)) := by rw [heap_alloc_new]
  rw [cell_of_row _ _ j _ _ (0, 0) hb, ← hj]
  simp [PE.cs]
theorem onePE (x : PE) : ∀ u ∈ x.cs, u.oneCell' = true := by
  intro u hu
  simp only [PE.cs, List.mem_cons, List.not_mem_nil, or_false] at hu
  rcases hu with rfl | rfl | rfl <;> rfl
theorem box6_set {w : World} {q : Nat} {c0 c1 c2 c3 c4 c5 : Value} {T : TypeId} (h : w.heap[q]? = some (.cells #[c0, c1, c2, c3, c4, c5] T (0, 0))) (v0 v1 v2 v3 v4 v5 : Value) :
    ((((((w.setCell ⟨q, 0, none⟩ v0).setCell ⟨q, 1, none⟩ v1).setCell ⟨q, 2, none⟩ v2).setCell ⟨q, 3, none⟩ v3).setCell ⟨q, 4, none⟩ v4).setCell ⟨q, 5, none⟩ v5).heap[q]? = some (.cells #[v0, v1, v2, v3, v4, v5] T (0, 0)) ∧ w.grownBy ((((((w.setCell ⟨q, 0, none⟩ v0).setCell ⟨q, 1, none⟩ v1).setCell ⟨q, 2, none⟩ v2).setCell ⟨q, 3, none⟩ v3).setCell ⟨q, 4, none⟩ v4).setCell ⟨q, 5, none⟩ v5) (some q) := by
  have h0 := boxk_set h 0 v0
  have h1 := boxk_set h0.1 1 v1
  have h2 := boxk_set h1.1 2 v2
  have h3 := boxk_set h2.1 3 v3
  have h4 := boxk_set h3.1 4 v4
  have h5 := boxk_set h4.1 5 v5
  exact ⟨h5.1, grown_tt (grown_tt (grown_tt (grown_tt (grown_tt h0.2 h1.2) h2.2) h3.2) h4.2) h5.2⟩
theorem box6_post {P : Program} {f : Func} {Q : Ending → World → Prop} {x : Exit} {act : Act} {w : World} {q : Nat} {c0 c1 c2 c3 c4 c5 v0 v1 v2 v3 v4 v5 : Value} {T : TypeId} (h : w.heap[q]? = some (.cells #[c0, c1, c2, c3, c4, c5] T (0, 0)))
    (k : ∀ w2, w2.heap[q]? = some (.cells #[v0, v1, v2, v3, v4, v5] T (0, 0)) → w.grownBy w2 (some q) → bodyPost P f Q x act w2) : bodyPost P f Q x act ((((((w.setCell ⟨q, 0, none⟩ v0).setCell ⟨q, 1, none⟩ v1).setCell ⟨q, 2, none⟩ v2).setCell ⟨q, 3, none⟩ v3).setCell ⟨q, 4, none⟩ v4).setCell ⟨q, 5, none⟩ v5) :=
  k _ (box6_set h v0 v1 v2 v3 v4 v5).1 (box6_set h v0 v1 v2 v3 v4 v5).2
theorem field_bound (c0 : ByteArray) (c1 : Int) (a1 a2 a3 a : Option Addr) (n1 n2 n3 n k1 k2 k3 k : Nat) (w : World) : (Instr.field 98 (.agg #[.string c0, .int .i64 c1, .slice a1 n1 k1, .slice a2 n2 k2, .slice a3 n3 k3, .slice a n k]) 1).run Tryz.prog w = .ok (.slice a n k) w := by kernel_rfl
/-- a row of patterns at or behind a world's end, where all that was in that world is left -/
def RowP (w0 : World) (v : Value) (l : List PE) (w : World) : Prop := w.ownsRow w0.heap.size 58 3 v l.length (rowOf PE.cs l) ∧ Below w0.heap.size w0 w
theorem RowP.nil (w : World) : RowP w (.slice none 0 0) [] w := ⟨World.ownsRow_nil _ _ _ _, Below.refl _ _⟩
theorem RowP.alloc {w0 w : World} {v : Value} {l : List PE} (h : RowP w0 v l w) (o : Obj) : RowP w0 v l (w.alloc o) := ⟨h.1.alloc o, h.2.alloc h.2.size o⟩
theorem RowP.later {w0 w w' : World} {v : Value} {l : List PE} (h : RowP w0 v l w) (hb : Below w.heap.size w w') : RowP w0 v l w' := ⟨ownsRow_below' h.1 hb, h.2.trans (hb.mono h.2.size)⟩
theorem RowP.grown {w0 w w' : World} {v : Value} {l : List PE} {q : Nat} (h : RowP w0 v l w) (hg : w.grownBy w' (some q)) (hq : q < w0.heap.size) : w'.ownsRow w0.heap.size 58 3 v l.length (rowOf PE.cs l) :=
  ownsRow_sameD h.1 (fun k hk => hg.block k (h.1.lt k hk).2 (by have := (h.1.lt k hk).1; simp; omega))
/-- what it reads as, its elements' lists lying where they lay at the head -/
theorem RowP.rd {w0 w : World} {a : Option Addr} {n cap : Nat} {l : List PE} (h : RowP w0 (.slice a n cap) l w) (hi : ∀ p ∈ l, RdArg w0 p.a p.L) : RdPatS w a l ∧ l.length = n := by
  obtain ⟨a', c', e, hr, -, -⟩ := rdK_owns PE.len (by decide) h.1
  simp only [Value.slice.injEq] at e
  obtain ⟨rfl, rfl, rfl⟩ := e
  exact ⟨⟨hr, fun i hi' => (hi _ (eAt_mem hi')).below h.2⟩, rfl⟩

set_option maxRecDepth 100000 in
set_option maxHeartbeats 3200000 in
theorem boundRuleOf_any (x : RE) (w : World) (hr : RdRule w x) (hn : x.nP ≤ 1048576) :
    Calls Tryz.prog 60 #[.agg #[.string x.nm, .int .i64 x.sal, .slice x.aP x.nP x.cP, .slice x.aC x.nC x.cC, .slice x.aA x.nA x.cA]] w fun e w' =>
      ∃ a cap, e = .returned (.agg #[.string x.nm, .int .i64 x.sal, .slice x.aP x.nP x.cP, .slice x.aC x.nC x.cC, .slice x.aA x.nA x.cA, .slice a (posB x.P).length cap]) ∧ RdPatS w' a (posB x.P) ∧ Below w.heap.size w w' := by
  obtain ⟨i0, hi, hz0, hz1, hz2⟩ := info_parts infoPat
  have HN := hide hr.np
  have HIn : Hid (∀ p ∈ posB x.P, RdArg w p.a p.L) := fun p hp => by
    obtain ⟨i, hi, rfl⟩ := mem_eAt (List.mem_filter.1 hp).1
    exact hr.p.2 i hi
  obtain ⟨hA, hR, b1⟩ := boxes2 w #[.string x.nm, .int .i64 x.sal, .slice x.aP x.nP x.cP, .slice x.aC x.nC x.cC, .slice x.aA x.nA x.cA] #[.string ⟨#[]⟩, .int .i64 0, .slice none 0 0, .slice none 0 0, .slice none 0 0, .slice none 0 0] 40 98
  have hz : w.heap.size + 1 < ((w.alloc (.cells #[.string x.nm, .int .i64 x.sal, .slice x.aP x.nP x.cP, .slice x.aC x.nC x.cC, .slice x.aA x.nA x.cA] 40)).alloc (.cells #[.string ⟨#[]⟩, .int .i64 0, .slice none 0 0, .slice none 0 0, .slice none 0 0, .slice none 0 0] 98)).heap.size := by simp
  go_enter Tryz.func60, Tryz.ntmps60
  go_wp2
  generalize ((w.alloc (.cells #[.string x.nm, .int .i64 x.sal, .slice x.aP x.nP x.cP, .slice x.aC x.nC x.cC, .slice x.aA x.nA x.cA] 40)).alloc (.cells #[.string ⟨#[]⟩, .int .i64 0, .slice none 0 0, .slice none 0 0, .slice none 0 0, .slice none 0 0] 98)) = w1 at hA hR b1 hz ⊢
  have HA := hide hA
  have HR := hide hR
  clear hA hR
  go_loopw [3, 9] (fun v i wr => ∃ (k : Nat), k ≤ x.nP ∧ i = .int .i64 k ∧ RowP w1 v (posB (x.P.take k)) wr) (fun _ i _ => x.nP - (intOf i).toNat)
  case atStart => exact ⟨0, Nat.zero_le _, rfl, RowP.nil _⟩
  case round =>
    obtain ⟨k, hk, rfl, hrow⟩ := hrel
    have HRow := hide hrow
    obtain ⟨va, vc, e0, -, -, -⟩ := rdK_owns PE.len (by decide) hrow.1
    clear hrow
    have hB : Below w.heap.size w wr := b1.trans (HRow.out.2.mono b1.size)
    by_cases hlt : k < x.nP
    · have hlL : k < x.P.length := by rw [HN.out]; exact hlt
      obtain ⟨b, off, hab, hbw, hc⟩ := (hr.p.below hB).cells (by omega)
      obtain ⟨c0, c1, c2, -⟩ := hc k hlL
      clear hc
      have HT := hide (posB_take hlL)
      have hpl := posB_take_len x.P k
      rw [HN.out] at hpl
      subst e0
      rw [hab]
      obtain ⟨y, hy⟩ : ∃ y, y = eAt x.P k := ⟨_, rfl⟩
      rw [← hy] at c0 c1 c2 HT
      clear hy hlL hab
      generalize posB (x.P.take k) = l at HRow HT hpl ⊢
      have H3 := hide (HRow.out.alloc (.cells #[.string y.kd, .slice y.a y.L.length y.cap, .bool y.nt] 58))
      cases hnt : y.nt
      · rw [hnt] at c2 HT H3
        have H4 := hide (H3.out.alloc (.cells #[.string y.kd, .slice y.a y.L.length y.cap, .bool false] 58))
        have HSrc := hide (srcPE (wr.alloc (.cells #[.string y.kd, .slice y.a y.L.length y.cap, .bool false] 58)) y)
        rw [hnt] at HSrc
        have HZ4 := H4.out.2.size
        clear HRow hB
        go_wp2_with (at_builtin; refine wpList_append_lies _ rfl (.tmp 16) (.tmp 18) 96 rfl w1.heap.size 58 i0 (.agg #[.string ⟨#[]⟩, .slice none 0 0, .bool false]) 3 48 Tryz.underlying96 hi hz0 hz1 hz2 rfl (by omega) (.slice va l.length vc) l.length (rowOf PE.cs l) rfl H4.out.1 ⟨wr.heap.size + 1, 0, none⟩ 1 1 (PE.cs y) ?hx rfl (by simpa using HSrc.out) (onePE y) (by omega) (by unfold maxLen; omega) (by omega) HZ4 _ rfl ?_)
        case hx => simp [Act.eval]
        intro g5 c5 w5 ho5 hg5 hat5 hlt5
        have HF : Hid (RowP w1 (.slice (some ⟨g5, 0, none⟩) (l.length + 1) c5) (posB (x.P.take (k + 1))) w5) := by
          refine ⟨?_, H4.out.2.grown hg5 HZ4 (fun k hk => (H4.out.1.lt k hk).1)⟩
          rw [HT.out, if_neg (by simp), rowOf_append, List.length_append, rowOf_cons, show rowOf PE.cs [] = [] from rfl, List.append_nil]
          exact ho5
        clear ho5 hg5 hat5 hlt5 HSrc H4 H3 HZ4 HT
        go_wp2
        go_roundw
        case rel => exact ⟨k + 1, by omega, by go_num, HF.out⟩
        case measure => simp [intOf]; omega
      · rw [hnt] at c2 HT H3
        have HF : Hid (RowP w1 (.slice va l.length vc) (posB (x.P.take (k + 1))) (wr.alloc (.cells #[.string y.kd, .slice y.a y.L.length y.cap, .bool true] 58))) := by
          unfold Hid
          rw [HT.out, if_pos rfl, List.append_nil]
          exact H3.out
        clear HRow hB H3 HT
        go_wp2
        go_roundw
        case rel => exact ⟨k + 1, by omega, by go_num, HF.out⟩
        case measure => simp [intOf]; omega
    · obtain rfl : k = x.nP := by omega
      have HR2 := hide (box_below HR.out HRow.out.2 hz)
      have HA2 := hide (box_below HA.out HRow.out.2 (by omega))
      subst e0
      have ht : x.P.take x.nP = x.P := by rw [← HN.out, List.take_length]
      rw [ht] at HRow ⊢
      have H2 := hide (box6_set HR2.out (.string x.nm) (.int .i64 x.sal) (.slice x.aP x.nP x.cP) (.slice x.aC x.nC x.cC) (.slice x.aA x.nA x.cA) (.slice va (posB x.P).length vc))
      have a0 := boxk_cell HA2.out 0 _ rfl
      have a1 := boxk_cell HA2.out 1 _ rfl
      have a2 := boxk_cell HA2.out 2 _ rfl
      have a3 := boxk_cell HA2.out 3 _ rfl
      have a4 := boxk_cell HA2.out 4 _ rfl
      have r0 := boxk_cell HR2.out 0 _ rfl
      have r1 := boxk_cell HR2.out 1 _ rfl
      have r2 := boxk_cell HR2.out 2 _ rfl
      have r3 := boxk_cell HR2.out 3 _ rfl
      have r4 := boxk_cell HR2.out 4 _ rfl
      have r5 := boxk_cell HR2.out 5 _ rfl
      have f0 := boxk_frozen HR2.out 0
      have f1 := boxk_frozen HR2.out 1
      have f2 := boxk_frozen HR2.out 2
      have f3 := boxk_frozen HR2.out 3
      have f4 := boxk_frozen HR2.out 4
      have f5 := boxk_frozen HR2.out 5
      go_wp2
      refine box6_post HR2.out (fun w4 h4 gr => ?_)
      clear a0 a1 a2 a3 a4 r0 r1 r2 r3 r4 r5 f0 f1 f2 f3 f4 f5
      have c0 := boxk_cell h4 0 _ rfl
      have c1 := boxk_cell h4 1 _ rfl
      have c2 := boxk_cell h4 2 _ rfl
      have c3 := boxk_cell h4 3 _ rfl
      have c4 := boxk_cell h4 4 _ rfl
      have c5 := boxk_cell h4 5 _ rfl
      have ho := HRow.out.grown gr hz
      have hB4 : Below w.heap.size w w4 := below_set hB gr (by omega)
      refine bodyPost_ret (v := .agg #[.string x.nm, .int .i64 x.sal, .slice x.aP x.nP x.cP, .slice x.aC x.nC x.cC, .slice x.aA x.nA x.cA, .slice va (posB x.P).length vc]) (by simp [results, Tryz.results60, go_sem, c0, c1, c2, c3, c4, c5]) rfl ⟨va, vc, rfl, ?_, hB4⟩
      obtain ⟨a', c', e, hr', -, -⟩ := rdK_owns PE.len (by decide) ho
      simp only [Value.slice.injEq] at e
      rw [e.1]
      exact ⟨hr', fun i hi' => (HIn.out _ (eAt_mem hi')).below hB4⟩

end Go.Proofs.YtcfhpcbkdpgboaaGreatDoor
/-
  The tested PosCount.
-/
namespace Go.Proofs.YtcfhpcbkdpgboaaGreatDoor
open Go.RowKit
set_option linter.unusedVariables false

set_option maxRecDepth 100000 in
theorem count_any (a : Option Addr) (n cap : Nat) (w : World) (hn : n ≤ 1048576) : Calls Tryz.prog 97 #[.slice a n cap] w fun e w' => e = .returned (.int .i64 (n : Int)) ∧ w' = w := by
  go_enter Tryz.func97, Tryz.ntmps97
  go_wp2
  go_ret
  exact ⟨rfl, rfl⟩

end Go.Proofs.YtcfhpcbkdpgboaaGreatDoor
/-
  What the parts of the tested RuleOk answer: its lists, its methods.
-/
namespace Go.Proofs.YtcfhpcbkdpgboaaGreatDoor
open Go.RowKit
set_option linter.unusedVariables false

def PE.pos (p : PE) : Bool := !p.nt
theorem fits_of {x : A5} (h : x.small) : x.fits := ⟨Nat.le_trans h.1 (by unfold maxLen; omega), Nat.le_trans h.2 (by unfold maxLen; omega)⟩

set_option maxRecDepth 100000 in
set_option maxHeartbeats 3200000 in
theorem condOk_any (c : C11) (aJ : Option Addr) (nJ cJ : Nat) (J : List PE) (x : RE) (w : World) (hf : c.small) (hzJ : J.length = nJ) (hrJ : RdPatS w aJ J) (hsJ : ∀ p ∈ J, p.small) (hnJ : nJ ≤ 1048576) :
    Calls Tryz.prog 63 #[.agg #[.string x.nm, .int .i64 x.sal, .slice x.aP x.nP x.cP, .slice x.aC x.nC x.cC, .slice x.aA x.nA x.cA, .slice aJ nJ cJ], .agg #[.int .i64 c.Op, .int .i64 c.L.K, .string c.L.S, .int .i64 c.L.V.K, .int .i64 c.L.V.N, .string c.L.V.S, .int .i64 c.R.K, .string c.R.S, .int .i64 c.R.V.K, .int .i64 c.R.V.N, .string c.R.V.S]] w fun e w' => e = .returned (.bool (condI J c)) ∧ Below w.heap.size w w' := by
  obtain ⟨Op, ⟨LK, LS, ⟨LVK, LVN, LVS⟩⟩, ⟨RK, RS, ⟨RVK, RVN, RVS⟩⟩⟩ := c
  have f1 := fits_of hf.1
  have f2 := fits_of hf.2
  have HC : Hid (condI J ⟨Op, ⟨LK, LS, ⟨LVK, LVN, LVS⟩⟩, ⟨RK, RS, ⟨RVK, RVN, RVS⟩⟩⟩ = (condB Op ⟨LK, LS, ⟨LVK, LVN, LVS⟩⟩ ⟨RK, RS, ⟨RVK, RVN, RVS⟩⟩ && bindsI J ⟨LK, LS, ⟨LVK, LVN, LVS⟩⟩ && bindsI J ⟨RK, RS, ⟨RVK, RVN, RVS⟩⟩)) := rfl
  simp only
  obtain ⟨hA, hX, b1⟩ := boxes2 w #[.string x.nm, .int .i64 x.sal, .slice x.aP x.nP x.cP, .slice x.aC x.nC x.cC, .slice x.aA x.nA x.cA, .slice aJ nJ cJ] #[.int .i64 Op, .int .i64 LK, .string LS, .int .i64 LVK, .int .i64 LVN, .string LVS, .int .i64 RK, .string RS, .int .i64 RVK, .int .i64 RVN, .string RVS] 98 65
  go_enter Tryz.func63, Tryz.ntmps63
  go_wp2_with fail
  refine (implCondOk_any Op ⟨LK, LS, ⟨LVK, LVN, LVS⟩⟩ ⟨RK, RS, ⟨RVK, RVN, RVS⟩⟩ _ f1 f2).mono ?_
  rintro e w1 ⟨rfl, hb⟩
  have HA1 := hide (box_step hA hb)
  have HX1 := hide (box_step hX hb)
  have hB1 : Below w.heap.size w w1 := b1.trans (hb.mono b1.size)
  clear hb hA hX b1
  generalize condB Op ⟨LK, LS, ⟨LVK, LVN, LVS⟩⟩ ⟨RK, RS, ⟨RVK, RVN, RVS⟩⟩ = bb at HC ⊢
  cases bb
  · go_wp2
    go_ret
    exact ⟨by rw [HC.out]; rfl, hB1⟩
  · have a5 := boxk_cell HA1.out 5 _ rfl
    have x1 := boxk_cell HX1.out 1 _ rfl
    have x2 := boxk_cell HX1.out 2 _ rfl
    have x3 := boxk_cell HX1.out 3 _ rfl
    have x4 := boxk_cell HX1.out 4 _ rfl
    have x5 := boxk_cell HX1.out 5 _ rfl
    go_wp2_with fail
    refine (binds_any aJ nJ cJ J LK LS LVK LVN LVS _ hzJ (hrJ.below hB1) hsJ (by omega)).mono ?_
    rintro e w2 ⟨rfl, hb⟩
    have HA2 := hide (box_step HA1.out hb)
    have HX2 := hide (box_step HX1.out hb)
    have hB2 : Below w.heap.size w w2 := hB1.trans (hb.mono hB1.size)
    clear hb HA1 HX1 hB1 a5 x1 x2 x3 x4 x5
    generalize bindsI J ⟨LK, LS, ⟨LVK, LVN, LVS⟩⟩ = bb at HC ⊢
    cases bb
    · go_wp2
      go_ret
      exact ⟨by rw [HC.out]; rfl, hB2⟩
    · have a5 := boxk_cell HA2.out 5 _ rfl
      have x6 := boxk_cell HX2.out 6 _ rfl
      have x7 := boxk_cell HX2.out 7 _ rfl
      have x8 := boxk_cell HX2.out 8 _ rfl
      have x9 := boxk_cell HX2.out 9 _ rfl
      have x10 := boxk_cell HX2.out 10 _ rfl
      go_wp2_with fail
      refine (binds_any aJ nJ cJ J RK RS RVK RVN RVS _ hzJ (hrJ.below hB2) hsJ (by omega)).mono ?_
      rintro e w3 ⟨rfl, hb⟩
      have hB3 : Below w.heap.size w w3 := hB2.trans (hb.mono hB2.size)
      clear hb HA2 HX2 hB2 a5 x6 x7 x8 x9 x10
      generalize bindsI J ⟨RK, RS, ⟨RVK, RVN, RVS⟩⟩ = bb at HC ⊢
      go_wp2
      go_ret
      exact ⟨by rw [HC.out]; rfl, hB3⟩

set_option maxRecDepth 100000 in
set_option maxHeartbeats 3200000 in
theorem listC_any (a : Option Addr) (cap n : Nat) (L : List C11) (aJ : Option Addr) (nJ cJ : Nat) (J : List PE) (x : RE) (w : World) (hz : L.length = n) (hr : RdCond w a L) (hzJ : J.length = nJ) (hrJ : RdPatS w aJ J) (hsJ : ∀ p ∈ J, p.small) (hnJ : nJ ≤ 1048576) (hs : ∀ c ∈ L, c.small) (hm : n ≤ 1048580) :
    Calls Tryz.prog 62 #[.slice a n cap, .int .i64 0, .int .i64 6, .func (.func 63) #[.agg #[.string x.nm, .int .i64 x.sal, .slice x.aP x.nP x.cP, .slice x.aC x.nC x.cC, .slice x.aA x.nA x.cA, .slice aJ nJ cJ]] #[]] w fun e w' =>
      e = .returned (.bool (decide (n ≤ 6) && L.all (condI J))) ∧ Below w.heap.size w w' := by
  have HN := hide hz.symm
  clear hz
  by_cases h5 : n ≤ 6
  · have HF : Hid ((decide (n ≤ 6) && L.all (condI J)) = L.all (condI J)) := by unfold Hid; rw [decide_eq_true h5]; rfl
    go_enter Tryz.func62, Tryz.ntmps62
    go_wp2
    go_loopw [23] (fun i wr => ∃ (k : Nat), k ≤ n ∧ i = .int .i64 k ∧ (∀ j, j < k → (condI J) (eAt L j) = true) ∧ Below w.heap.size w wr) (fun i _ => n - (intOf i).toNat)
    case atStart => exact ⟨0, Nat.zero_le _, rfl, fun j hj => absurd hj (Nat.not_lt_zero _), Below.refl _ _⟩
    case round =>
      obtain ⟨k, hk, rfl, hall, hbel⟩ := hrel
      have HA := hide hall
      clear hall
      by_cases hlt : k < n
      · have hlL : k < L.length := by rw [← HN.out]; exact hlt
        obtain ⟨b, off, hab, hbw, hc⟩ := RdCond.cells (RdK.below hr hbel) (by omega)
        obtain ⟨c0, c1, c2, c3, c4, c5, c6, c7, c8, c9, c10⟩ := hc k hlL
        clear hc
        subst hab
        have hS := hs _ (eAt_mem hlL)
        have HNo : Hid ((condI J) (eAt L k) = false → L.all (condI J) = false) := fun h => by rw [Bool.eq_false_iff]; intro ht; rw [all_eAt.1 ht k hlL] at h; cases h
        have HNk : Hid ((condI J) (eAt L k) = true → ∀ j, j < k + 1 → (condI J) (eAt L j) = true) := fun h j hj => by
          by_cases e : j = k
          · rw [e]; exact h
          · exact HA.out j (by omega)
        generalize eAt L k = y at c0 c1 c2 c3 c4 c5 c6 c7 c8 c9 c10 hS HNo HNk
        have hbel1 := hbel.alloc hbel.size (.cells #[.int .i64 y.Op, .int .i64 y.L.K, .string y.L.S, .int .i64 y.L.V.K, .int .i64 y.L.V.N, .string y.L.V.S, .int .i64 y.R.K, .string y.R.S, .int .i64 y.R.V.K, .int .i64 y.R.V.N, .string y.R.V.S] 65)
        go_wp2_with fail
        refine (condOk_any y aJ nJ cJ J x _ hS hzJ (hrJ.below hbel1) hsJ hnJ).mono ?_
        rintro e w2 ⟨rfl, hb2⟩
        have hbel2 : Below w.heap.size w w2 := hbel1.trans (hb2.mono hbel1.size)
        clear hb2 hS c0 c1 c2 c3 c4 c5 c6 c7 c8 c9 c10 hbel hbel1
        generalize (condI J) y = bb at HNo HNk ⊢
        cases bb
        · have HV := hide (HNo.out rfl)
          clear HNo HNk
          go_wp2
          go_ret
          exact ⟨ret_bool (by rw [HF.out, HV.out]), hbel2⟩
        · have HV := hide (HNk.out rfl)
          clear HNo HNk
          go_wp2
          go_roundw
          case rel => exact ⟨k + 1, by omega, by go_num, HV.out, hbel2⟩
          case measure => simp [intOf]; omega
      · have HV : Hid (L.all (condI J) = true) := all_eAt.2 (fun j hj => HA.out j (by rw [← HN.out] at hj; omega))
        go_wp2
        go_ret
        exact ⟨ret_bool (by rw [HF.out, HV.out]), hbel⟩
  · have HF : Hid ((decide (n ≤ 6) && L.all (condI J)) = false) := by unfold Hid; rw [decide_eq_false h5]; rfl

    have hn : (6 : Int) < (n : Int) := by omega
    go_enter Tryz.func62, Tryz.ntmps62
    go_wp2
    go_ret
    exact ⟨ret_bool HF.out.symm, Below.refl _ _⟩

set_option maxRecDepth 100000 in
set_option maxHeartbeats 3200000 in
theorem bindsTerm_any (c : X11) (aJ : Option Addr) (nJ cJ : Nat) (J : List PE) (x : RE) (w : World) (hzJ : J.length = nJ) (hrJ : RdPatS w aJ J) (hsJ : ∀ p ∈ J, p.small) (hnJ : nJ ≤ 1048576) :
    Calls Tryz.prog 101 #[.agg #[.string x.nm, .int .i64 x.sal, .slice x.aP x.nP x.cP, .slice x.aC x.nC x.cC, .slice x.aA x.nA x.cA, .slice aJ nJ cJ], .agg #[.string c.Op, .int .i64 c.L.K, .string c.L.S, .int .i64 c.L.V.K, .int .i64 c.L.V.N, .string c.L.V.S, .int .i64 c.R.K, .string c.R.S, .int .i64 c.R.V.K, .int .i64 c.R.V.N, .string c.R.V.S]] w fun e w' => e = .returned (.bool (termI J c)) ∧ Below w.heap.size w w' := by
  obtain ⟨Op, ⟨LK, LS, ⟨LVK, LVN, LVS⟩⟩, ⟨RK, RS, ⟨RVK, RVN, RVS⟩⟩⟩ := c
  have HC : Hid (termI J ⟨Op, ⟨LK, LS, ⟨LVK, LVN, LVS⟩⟩, ⟨RK, RS, ⟨RVK, RVN, RVS⟩⟩⟩ = (bindsI J ⟨LK, LS, ⟨LVK, LVN, LVS⟩⟩ && bindsI J ⟨RK, RS, ⟨RVK, RVN, RVS⟩⟩)) := rfl
  simp only
  obtain ⟨hA, hX, b1⟩ := boxes2 w #[.string x.nm, .int .i64 x.sal, .slice x.aP x.nP x.cP, .slice x.aC x.nC x.cC, .slice x.aA x.nA x.cA, .slice aJ nJ cJ] #[.string Op, .int .i64 LK, .string LS, .int .i64 LVK, .int .i64 LVN, .string LVS, .int .i64 RK, .string RS, .int .i64 RVK, .int .i64 RVN, .string RVS] 98 121
  go_enter Tryz.func101, Tryz.ntmps101
  go_wp2_with fail
  refine (binds_any aJ nJ cJ J LK LS LVK LVN LVS _ hzJ (hrJ.below b1) hsJ (by omega)).mono ?_
  rintro e w1 ⟨rfl, hb⟩
  have HA1 := hide (box_step hA hb)
  have HX1 := hide (box_step hX hb)
  have hB1 : Below w.heap.size w w1 := b1.trans (hb.mono b1.size)
  clear hb hA hX b1
  generalize bindsI J ⟨LK, LS, ⟨LVK, LVN, LVS⟩⟩ = bb at HC ⊢
  cases bb
  · go_wp2
    go_ret
    exact ⟨by rw [HC.out]; rfl, hB1⟩
  · have a5 := boxk_cell HA1.out 5 _ rfl
    have x6 := boxk_cell HX1.out 6 _ rfl
    have x7 := boxk_cell HX1.out 7 _ rfl
    have x8 := boxk_cell HX1.out 8 _ rfl
    have x9 := boxk_cell HX1.out 9 _ rfl
    have x10 := boxk_cell HX1.out 10 _ rfl
    go_wp2_with fail
    refine (binds_any aJ nJ cJ J RK RS RVK RVN RVS _ hzJ (hrJ.below hB1) hsJ (by omega)).mono ?_
    rintro e w3 ⟨rfl, hb⟩
    have hB3 : Below w.heap.size w w3 := hB1.trans (hb.mono hB1.size)
    clear hb HA1 HX1 hB1 a5 x6 x7 x8 x9 x10
    generalize bindsI J ⟨RK, RS, ⟨RVK, RVN, RVS⟩⟩ = bb at HC ⊢
    go_wp2
    go_ret
    exact ⟨by rw [HC.out]; rfl, hB3⟩

set_option maxRecDepth 100000 in
set_option maxHeartbeats 3200000 in
theorem listT_any (a : Option Addr) (cap n : Nat) (L : List X11) (aJ : Option Addr) (nJ cJ : Nat) (J : List PE) (x : RE) (w : World) (hz : L.length = n) (hr : RdExpr w a L) (hzJ : J.length = nJ) (hrJ : RdPatS w aJ J) (hsJ : ∀ p ∈ J, p.small) (hnJ : nJ ≤ 1048576) (hm : n ≤ 1048580) :
    Calls Tryz.prog 100 #[.slice a n cap, .int .i64 0, .int .i64 5, .func (.func 101) #[.agg #[.string x.nm, .int .i64 x.sal, .slice x.aP x.nP x.cP, .slice x.aC x.nC x.cC, .slice x.aA x.nA x.cA, .slice aJ nJ cJ]] #[]] w fun e w' =>
      e = .returned (.bool (decide (n ≤ 5) && L.all (termI J))) ∧ Below w.heap.size w w' := by
  have HN := hide hz.symm
  clear hz
  by_cases h5 : n ≤ 5
  · have HF : Hid ((decide (n ≤ 5) && L.all (termI J)) = L.all (termI J)) := by unfold Hid; rw [decide_eq_true h5]; rfl
    go_enter Tryz.func100, Tryz.ntmps100
    go_wp2
    go_loopw [23] (fun i wr => ∃ (k : Nat), k ≤ n ∧ i = .int .i64 k ∧ (∀ j, j < k → (termI J) (eAt L j) = true) ∧ Below w.heap.size w wr) (fun i _ => n - (intOf i).toNat)
    case atStart => exact ⟨0, Nat.zero_le _, rfl, fun j hj => absurd hj (Nat.not_lt_zero _), Below.refl _ _⟩
    case round =>
      obtain ⟨k, hk, rfl, hall, hbel⟩ := hrel
      have HA := hide hall
      clear hall
      by_cases hlt : k < n
      · have hlL : k < L.length := by rw [← HN.out]; exact hlt
        obtain ⟨b, off, hab, hbw, hc⟩ := RdExpr.cells (RdK.below hr hbel) (by omega)
        obtain ⟨c0, c1, c2, c3, c4, c5, c6, c7, c8, c9, c10⟩ := hc k hlL
        clear hc
        subst hab
        have hS := True.intro
        have HNo : Hid ((termI J) (eAt L k) = false → L.all (termI J) = false) := fun h => by rw [Bool.eq_false_iff]; intro ht; rw [all_eAt.1 ht k hlL] at h; cases h
        have HNk : Hid ((termI J) (eAt L k) = true → ∀ j, j < k + 1 → (termI J) (eAt L j) = true) := fun h j hj => by
          by_cases e : j = k
          · rw [e]; exact h
          · exact HA.out j (by omega)
        generalize eAt L k = y at c0 c1 c2 c3 c4 c5 c6 c7 c8 c9 c10 hS HNo HNk
        have hbel1 := hbel.alloc hbel.size (.cells #[.string y.Op, .int .i64 y.L.K, .string y.L.S, .int .i64 y.L.V.K, .int .i64 y.L.V.N, .string y.L.V.S, .int .i64 y.R.K, .string y.R.S, .int .i64 y.R.V.K, .int .i64 y.R.V.N, .string y.R.V.S] 121)
        go_wp2_with fail
        refine (bindsTerm_any y aJ nJ cJ J x _ hzJ (hrJ.below hbel1) hsJ hnJ).mono ?_
        rintro e w2 ⟨rfl, hb2⟩
        have hbel2 : Below w.heap.size w w2 := hbel1.trans (hb2.mono hbel1.size)
        clear hb2 hS c0 c1 c2 c3 c4 c5 c6 c7 c8 c9 c10 hbel hbel1
        generalize (termI J) y = bb at HNo HNk ⊢
        cases bb
        · have HV := hide (HNo.out rfl)
          clear HNo HNk
          go_wp2
          go_ret
          exact ⟨ret_bool (by rw [HF.out, HV.out]), hbel2⟩
        · have HV := hide (HNk.out rfl)
          clear HNo HNk
          go_wp2
          go_roundw
          case rel => exact ⟨k + 1, by omega, by go_num, HV.out, hbel2⟩
          case measure => simp [intOf]; omega
      · have HV : Hid (L.all (termI J) = true) := all_eAt.2 (fun j hj => HA.out j (by rw [← HN.out] at hj; omega))
        go_wp2
        go_ret
        exact ⟨ret_bool (by rw [HF.out, HV.out]), hbel⟩
  · have HF : Hid ((decide (n ≤ 5) && L.all (termI J)) = false) := by unfold Hid; rw [decide_eq_false h5]; rfl

    have hn : (5 : Int) < (n : Int) := by omega
    go_enter Tryz.func100, Tryz.ntmps100
    go_wp2
    go_ret
    exact ⟨ret_bool HF.out.symm, Below.refl _ _⟩

set_option maxRecDepth 100000 in
set_option maxHeartbeats 3200000 in
theorem listP_any (a : Option Addr) (cap n : Nat) (L : List PE) (w : World) (hz : L.length = n) (hr : RdPatS w a L) (hs : ∀ p ∈ L, p.small) (hm : n ≤ 1048580) :
    Calls Tryz.prog 96 #[.slice a n cap, .int .i64 1, .int .i64 6, .func (.func 71) #[] #[]] w fun e w' =>
      e = .returned (.bool (inB n 1 6 && L.all PE.okB)) ∧ Below w.heap.size w w' := by
  have HN := hide hz.symm
  clear hz
  by_cases h5 : 1 ≤ n ∧ n ≤ 6
  · have HF : Hid ((inB n 1 6 && L.all PE.okB) = L.all PE.okB) := by unfold Hid; rw [inB_t (by omega)]; rfl
    go_enter Tryz.func96, Tryz.ntmps96
    go_wp2
    go_loopw [23] (fun i wr => ∃ (k : Nat), k ≤ n ∧ i = .int .i64 k ∧ (∀ j, j < k → PE.okB (eAt L j) = true) ∧ Below w.heap.size w wr) (fun i _ => n - (intOf i).toNat)
    case atStart => exact ⟨0, Nat.zero_le _, rfl, fun j hj => absurd hj (Nat.not_lt_zero _), Below.refl _ _⟩
    case round =>
      obtain ⟨k, hk, rfl, hall, hbel⟩ := hrel
      have HA := hide hall
      clear hall
      by_cases hlt : k < n
      · have hlL : k < L.length := by rw [← HN.out]; exact hlt
        obtain ⟨b, off, hab, hbw, hc⟩ := (hr.below hbel).cells (by omega)
        obtain ⟨c0, c1, c2, hin⟩ := hc k hlL
        clear hc
        subst hab
        have hS := hs _ (eAt_mem hlL)
        have HNo : Hid (PE.okB (eAt L k) = false → L.all PE.okB = false) := fun h => by rw [Bool.eq_false_iff]; intro ht; rw [all_eAt.1 ht k hlL] at h; cases h
        have HNk : Hid (PE.okB (eAt L k) = true → ∀ j, j < k + 1 → PE.okB (eAt L j) = true) := fun h j hj => by
          by_cases e : j = k
          · rw [e]; exact h
          · exact HA.out j (by omega)
        have HIn := hide hin
        clear hin
        generalize eAt L k = y at c0 c1 c2 hS HNo HNk HIn
        have hbel1 := hbel.alloc hbel.size (.cells #[.string y.kd, .slice y.a y.L.length y.cap, .bool y.nt] 58)
        go_wp2_with fail
        refine (implPatOk_any y.kd y.a y.cap y.L y.nt _ (by have := hS.1; unfold maxLen; omega) (HIn.out.below (below_al _ _)) (fun v hv => by have := hS.2.2 v hv; exact ⟨by have := this.1; unfold maxLen; omega, by have := this.2; unfold maxLen; omega⟩) (by have := hS.2.1; omega)).mono ?_
        rintro e w2 ⟨rfl, hb2⟩
        have hbel2 : Below w.heap.size w w2 := hbel1.trans (hb2.mono hbel1.size)
        clear hb2 hS c0 c1 c2 hbel hbel1
        rw [show patB y.kd y.L = PE.okB y from rfl]
        generalize PE.okB y = bb at HNo HNk ⊢
        cases bb
        · have HV := hide (HNo.out rfl)
          clear HNo HNk
          go_wp2
          go_ret
          exact ⟨ret_bool (by rw [HF.out, HV.out]), hbel2⟩
        · have HV := hide (HNk.out rfl)
          clear HNo HNk
          go_wp2
          go_roundw
          case rel => exact ⟨k + 1, by omega, by go_num, HV.out, hbel2⟩
          case measure => simp [intOf]; omega
      · have HV : Hid (L.all PE.okB = true) := all_eAt.2 (fun j hj => HA.out j (by rw [← HN.out] at hj; omega))
        go_wp2
        go_ret
        exact ⟨ret_bool (by rw [HF.out, HV.out]), hbel⟩
  · have HF : Hid ((inB n 1 6 && L.all PE.okB) = false) := by unfold Hid; rw [inB_f (by omega)]; rfl

    by_cases hlow : (n : Int) < 1
    · go_enter Tryz.func96, Tryz.ntmps96
      go_wp2
      go_ret
      exact ⟨ret_bool HF.out.symm, Below.refl _ _⟩
    · have hn : (6 : Int) < (n : Int) := by omega
      go_enter Tryz.func96, Tryz.ntmps96
      go_wp2
      go_ret
      exact ⟨ret_bool HF.out.symm, Below.refl _ _⟩

set_option maxRecDepth 100000 in
set_option maxHeartbeats 3200000 in
theorem isBinder_any (kd : ByteArray) (a : Option Addr) (n cap : Nat) (nt : Bool) (w : World) :
    Calls Tryz.prog 98 #[.agg #[.string kd, .slice a n cap, .bool nt]] w fun e w' => e = .returned (.bool (!nt)) ∧ Below w.heap.size w w' := by
  have b0 := below_al w (.cells #[.string kd, .slice a n cap, .bool nt] 58)
  go_enter Tryz.func98, Tryz.ntmps98
  go_wp2
  go_ret
  exact ⟨rfl, b0⟩

set_option maxRecDepth 100000 in
set_option maxHeartbeats 3200000 in
theorem listB_any (a : Option Addr) (cap n : Nat) (L : List PE) (w : World) (hz : L.length = n) (hr : RdPatS w a L) (hm : n ≤ 1048580) :
    Calls Tryz.prog 96 #[.slice a n cap, .int .i64 1, .int .i64 3, .func (.func 98) #[] #[]] w fun e w' =>
      e = .returned (.bool (inB n 1 3 && L.all PE.pos)) ∧ Below w.heap.size w w' := by
  have HN := hide hz.symm
  clear hz
  by_cases h5 : 1 ≤ n ∧ n ≤ 3
  · have HF : Hid ((inB n 1 3 && L.all PE.pos) = L.all PE.pos) := by unfold Hid; rw [inB_t (by omega)]; rfl
    go_enter Tryz.func96, Tryz.ntmps96
    go_wp2
    go_loopw [23] (fun i wr => ∃ (k : Nat), k ≤ n ∧ i = .int .i64 k ∧ (∀ j, j < k → PE.pos (eAt L j) = true) ∧ Below w.heap.size w wr) (fun i _ => n - (intOf i).toNat)
    case atStart => exact ⟨0, Nat.zero_le _, rfl, fun j hj => absurd hj (Nat.not_lt_zero _), Below.refl _ _⟩
    case round =>
      obtain ⟨k, hk, rfl, hall, hbel⟩ := hrel
      have HA := hide hall
      clear hall
      by_cases hlt : k < n
      · have hlL : k < L.length := by rw [← HN.out]; exact hlt
        obtain ⟨b, off, hab, hbw, hc⟩ := (hr.below hbel).cells (by omega)
        obtain ⟨c0, c1, c2, hin⟩ := hc k hlL
        clear hc
        subst hab
        have hS := True.intro
        have HNo : Hid (PE.pos (eAt L k) = false → L.all PE.pos = false) := fun h => by rw [Bool.eq_false_iff]; intro ht; rw [all_eAt.1 ht k hlL] at h; cases h
        have HNk : Hid (PE.pos (eAt L k) = true → ∀ j, j < k + 1 → PE.pos (eAt L j) = true) := fun h j hj => by
          by_cases e : j = k
          · rw [e]; exact h
          · exact HA.out j (by omega)
        have HIn := hide hin
        clear hin
        generalize eAt L k = y at c0 c1 c2 hS HNo HNk HIn
        have hbel1 := hbel.alloc hbel.size (.cells #[.string y.kd, .slice y.a y.L.length y.cap, .bool y.nt] 58)
        go_wp2_with fail
        refine (isBinder_any y.kd y.a y.L.length y.cap y.nt _).mono ?_
        rintro e w2 ⟨rfl, hb2⟩
        have hbel2 : Below w.heap.size w w2 := hbel1.trans (hb2.mono hbel1.size)
        clear hb2 hS c0 c1 c2 hbel hbel1
        rw [show (!y.nt) = PE.pos y from rfl]
        generalize PE.pos y = bb at HNo HNk ⊢
        cases bb
        · have HV := hide (HNo.out rfl)
          clear HNo HNk
          go_wp2
          go_ret
          exact ⟨ret_bool (by rw [HF.out, HV.out]), hbel2⟩
        · have HV := hide (HNk.out rfl)
          clear HNo HNk
          go_wp2
          go_roundw
          case rel => exact ⟨k + 1, by omega, by go_num, HV.out, hbel2⟩
          case measure => simp [intOf]; omega
      · have HV : Hid (L.all PE.pos = true) := all_eAt.2 (fun j hj => HA.out j (by rw [← HN.out] at hj; omega))
        go_wp2
        go_ret
        exact ⟨ret_bool (by rw [HF.out, HV.out]), hbel⟩
  · have HF : Hid ((inB n 1 3 && L.all PE.pos) = false) := by unfold Hid; rw [inB_f (by omega)]; rfl

    by_cases hlow : (n : Int) < 1
    · go_enter Tryz.func96, Tryz.ntmps96
      go_wp2
      go_ret
      exact ⟨ret_bool HF.out.symm, Below.refl _ _⟩
    · have hn : (3 : Int) < (n : Int) := by omega
      go_enter Tryz.func96, Tryz.ntmps96
      go_wp2
      go_ret
      exact ⟨ret_bool HF.out.symm, Below.refl _ _⟩

end Go.Proofs.YtcfhpcbkdpgboaaGreatDoor
/-
  What the tested program's look at an act of a rule answers: actI; and at a list of acts.
-/
namespace Go.Proofs.YtcfhpcbkdpgboaaGreatDoor
open Go.RowKit
set_option linter.unusedVariables false

set_option maxRecDepth 100000 in
set_option maxHeartbeats 3200000 in
theorem actOk_any (y : QE) (aJ : Option Addr) (nJ cJ : Nat) (J : List PE) (x : RE) (w : World) (hy : y.small) (hr : RdExpr w y.a y.L) (hzJ : J.length = nJ) (hrJ : RdPatS w aJ J) (hsJ : ∀ p ∈ J, p.small) (hnJ : nJ ≤ 1048576) :
    Calls Tryz.prog 65 #[.agg #[.string x.nm, .int .i64 x.sal, .slice x.aP x.nP x.cP, .slice x.aC x.nC x.cC, .slice x.aA x.nA x.cA, .slice aJ nJ cJ], .agg #[.int .i64 y.K, .string y.nm, .slice y.a y.L.length y.cap, .int .i64 y.N, .string y.un]] w fun e w' => e = .returned (.bool (actI J y)) ∧ Below w.heap.size w w' := by
  obtain ⟨K, nm, a, cap, L, N, un⟩ := y
  have HC : Hid (actI J ⟨K, nm, a, cap, L, N, un⟩ = (actB K nm L N un && (!decide (K = 2) || decide (N < (J.length : Int))) && (decide (L.length ≤ 5) && L.all (termI J)))) := rfl
  obtain ⟨h1, h2, h3, h4⟩ := hy
  have f1 : nm.size ≤ maxLen := Nat.le_trans h1 (by unfold maxLen; omega)
  have f2 : un.size ≤ maxLen := Nat.le_trans h2 (by unfold maxLen; omega)
  have f3 : ∀ v ∈ L, v.fits := fun v hv => by obtain ⟨g0, g1, g2⟩ := h4 v hv; exact ⟨Nat.le_trans g0 (by unfold maxLen; omega), fits_of g1, fits_of g2⟩
  have f4 : L.length ≤ 1048580 := Nat.le_trans h3 (by omega)
  have f5 : L.length ≤ 1048580 := f4
  simp only at hr ⊢
  rw [hzJ] at HC
  obtain ⟨hA0, hX0, b1⟩ := boxes2 w #[.string x.nm, .int .i64 x.sal, .slice x.aP x.nP x.cP, .slice x.aC x.nC x.cC, .slice x.aA x.nA x.cA, .slice aJ nJ cJ] #[.int .i64 K, .string nm, .slice a L.length cap, .int .i64 N, .string un] 98 69
  go_enter Tryz.func65, Tryz.ntmps65
  go_wp2
  generalize (w.alloc (.cells #[.string x.nm, .int .i64 x.sal, .slice x.aP x.nP x.cP, .slice x.aC x.nC x.cC, .slice x.aA x.nA x.cA, .slice aJ nJ cJ] 98)).alloc (.cells #[.int .i64 K, .string nm, .slice a L.length cap, .int .i64 N, .string un] 69) = w0 at hA0 hX0 b1 ⊢
  have hA : w0.drew.heap[w.heap.size]? = some (.cells #[.string x.nm, .int .i64 x.sal, .slice x.aP x.nP x.cP, .slice x.aC x.nC x.cC, .slice x.aA x.nA x.cA, .slice aJ nJ cJ] 98 (0, 0)) := hA0
  have hX : w0.drew.heap[w.heap.size + 1]? = some (.cells #[.int .i64 K, .string nm, .slice a L.length cap, .int .i64 N, .string un] 69 (0, 0)) := hX0
  have hrd : RdExpr w0.drew a L := (RdK.below hr b1).heap rfl
  have hrJd : RdPatS w0.drew aJ J := (hrJ.below b1).heap rfl
  have b1d := b1.drew
  have hmf : ∀ (fn : Fn) (first cap : Array Value) (w : World), (Instr.makeFunc fn first cap).run Tryz.prog w = .ok (.func fn first cap) w := fun _ _ _ _ => rfl
  cases hok : actB K nm L N un
  · have HF : Hid (actI J ⟨K, nm, a, cap, L, N, un⟩ = false) := by unfold Hid; rw [HC.out, hok]; rfl
    refine wp_region_held_drew (S := fun W => W.cell? ⟨w.heap.size, 0, none⟩ = some (.string x.nm) ∧ W.cell? ⟨w.heap.size, 1, none⟩ = some (.int .i64 x.sal) ∧ W.cell? ⟨w.heap.size, 2, none⟩ = some (.slice x.aP x.nP x.cP) ∧ W.cell? ⟨w.heap.size, 3, none⟩ = some (.slice x.aC x.nC x.cC) ∧ W.cell? ⟨w.heap.size, 4, none⟩ = some (.slice x.aA x.nA x.cA) ∧ W.cell? ⟨w.heap.size, 5, none⟩ = some (.slice aJ nJ cJ) ∧ W.cell? ⟨w.heap.size + 1, 0, none⟩ = some (.int .i64 K) ∧ W.cell? ⟨w.heap.size + 1, 1, none⟩ = some (.string nm) ∧ W.cell? ⟨w.heap.size + 1, 2, none⟩ = some (.slice a L.length cap) ∧ W.cell? ⟨w.heap.size + 1, 3, none⟩ = some (.int .i64 N) ∧ W.cell? ⟨w.heap.size + 1, 4, none⟩ = some (.string un)) (by kernel_rfl) ⟨boxk_cell hA 0 _ rfl, boxk_cell hA 1 _ rfl, boxk_cell hA 2 _ rfl, boxk_cell hA 3 _ rfl, boxk_cell hA 4 _ rfl, boxk_cell hA 5 _ rfl, boxk_cell hX 0 _ rfl, boxk_cell hX 1 _ rfl, boxk_cell hX 2 _ rfl, boxk_cell hX 3 _ rfl, boxk_cell hX 4 _ rfl⟩ (fun hHeld => ?_)
    refine wpAnyH_take (i := 0) (oi := Oper.mk (some 5) _ _ _ _ _) (v := ?v1) rfl (by kernel_rfl) (by kernel_rfl) (by kernel_rfl) (fun _ _ _ h => h) (Or.inl ⟨by rfl, ?y1⟩) hHeld ?r1
    case y1 => (intro W hSW; obtain ⟨q0, q1, q2, q3, q4, q5, q6, q7, q8, q9, q10⟩ := hSW; go_simp; try with_reducible rfl)
    simp only [Act.put, List.setIfInBounds_toArray, List.set_cons_zero, List.set_cons_succ]
    refine wpAnyH_ready (rs := [1]) (by kernel_rfl) (by simp) (AllReadyH.cons (o := Oper.mk (some 6) _ _ _ _ _) rfl (fun Kk hK => ?_) AllReadyH.nil)
    go_simp
    refine (implActOk_any K nm a cap L N un _ f1 hrd f3 f4 f2).mono ?_
    rintro e u1 ⟨rfl, hb⟩
    rw [hok]
    have A1 := box_step hA hb
    have X1 := box_step hX hb
    have B1 := b1d.trans (hb.mono b1d.size)
    have R1 := RdK.below hrd hb
    have J1 := hrJd.below hb
    clear hb
    refine hK.out _ _ ⟨boxk_cell A1 0 _ rfl, boxk_cell A1 1 _ rfl, boxk_cell A1 2 _ rfl, boxk_cell A1 3 _ rfl, boxk_cell A1 4 _ rfl, boxk_cell A1 5 _ rfl, boxk_cell X1 0 _ rfl, boxk_cell X1 1 _ rfl, boxk_cell X1 2 _ rfl, boxk_cell X1 3 _ rfl, boxk_cell X1 4 _ rfl⟩ (fun hHeld => ?_)
    clear hK Kk
    refine wpAnyH_take (i := 2) (oi := Oper.mk (some 7) _ _ _ _ _) (v := ?v2) rfl (by kernel_rfl) (by kernel_rfl) (by kernel_rfl) (fun _ _ _ h => h) (Or.inl ⟨by rfl, ?y2⟩) hHeld ?r2
    case y2 => (intro W hSW; obtain ⟨q0, q1, q2, q3, q4, q5, q6, q7, q8, q9, q10⟩ := hSW; go_simp; try with_reducible rfl)
    simp only [Act.put, List.setIfInBounds_toArray, List.set_cons_zero, List.set_cons_succ]
    refine wpAnyH_take (i := 3) (oi := Oper.mk (some 8) _ _ _ _ _) (v := undef) rfl (by kernel_rfl) (by kernel_rfl) (by kernel_rfl) (fun _ _ _ h => h) (Or.inr ⟨by rfl, rfl⟩) hHeld ?_
    simp only [Act.put, List.setIfInBounds_toArray, List.set_cons_zero, List.set_cons_succ]
    refine wpAnyH_take (i := 4) (oi := Oper.mk (some 9) _ _ _ _ _) (v := undef) rfl (by kernel_rfl) (by kernel_rfl) (by kernel_rfl) (fun _ _ _ h => h) (Or.inr ⟨by rfl, rfl⟩) hHeld ?_
    simp only [Act.put, List.setIfInBounds_toArray, List.set_cons_zero, List.set_cons_succ]
    refine wpAnyH_take (i := 5) (oi := Oper.mk (some 10) _ _ _ _ _) (v := undef) rfl (by kernel_rfl) (by kernel_rfl) (by kernel_rfl) (fun _ _ _ h => h) (Or.inr ⟨by rfl, rfl⟩) hHeld ?_
    simp only [Act.put, List.setIfInBounds_toArray, List.set_cons_zero, List.set_cons_succ]
    refine wpAnyH_take (i := 6) (oi := Oper.mk (some 11) _ _ _ _ _) (v := undef) rfl (by kernel_rfl) (by kernel_rfl) (by kernel_rfl) (fun _ _ _ h => h) (Or.inr ⟨by rfl, rfl⟩) hHeld ?_
    simp only [Act.put, List.setIfInBounds_toArray, List.set_cons_zero, List.set_cons_succ]
    refine wpAnyH_take (i := 7) (oi := Oper.mk (some 12) _ _ _ _ _) (v := undef) rfl (by kernel_rfl) (by kernel_rfl) (by kernel_rfl) (fun _ _ _ h => h) (Or.inr ⟨by rfl, rfl⟩) hHeld ?_
    simp only [Act.put, List.setIfInBounds_toArray, List.set_cons_zero, List.set_cons_succ]
    refine wpAnyH_take (i := 8) (oi := Oper.mk (some 13) _ _ _ _ _) (v := undef) rfl (by kernel_rfl) (by kernel_rfl) (by kernel_rfl) (fun _ _ _ h => h) (Or.inr ⟨by rfl, rfl⟩) hHeld ?_
    simp only [Act.put, List.setIfInBounds_toArray, List.set_cons_zero, List.set_cons_succ]
    refine wpAnyH_take (i := 9) (oi := Oper.mk (some 14) _ _ _ _ _) (v := undef) rfl (by kernel_rfl) (by kernel_rfl) (by kernel_rfl) (fun _ _ _ h => h) (Or.inr ⟨by rfl, rfl⟩) hHeld ?_
    simp only [Act.put, List.setIfInBounds_toArray, List.set_cons_zero, List.set_cons_succ]
    refine wpAnyH_take (i := 10) (oi := Oper.mk (some 15) _ _ _ _ _) (v := undef) rfl (by kernel_rfl) (by kernel_rfl) (by kernel_rfl) (fun _ _ _ h => h) (Or.inr ⟨by rfl, rfl⟩) hHeld ?_
    simp only [Act.put, List.setIfInBounds_toArray, List.set_cons_zero, List.set_cons_succ]
    refine wpAnyH_take (i := 11) (oi := Oper.mk (some 16) _ _ _ _ _) (v := undef) rfl (by kernel_rfl) (by kernel_rfl) (by kernel_rfl) (fun _ _ _ h => h) (Or.inr ⟨by rfl, rfl⟩) hHeld ?_
    simp only [Act.put, List.setIfInBounds_toArray, List.set_cons_zero, List.set_cons_succ]
    refine wpAnyH_take (i := 12) (oi := Oper.mk (some 17) _ _ _ _ _) (v := undef) rfl (by kernel_rfl) (by kernel_rfl) (by kernel_rfl) (fun _ _ _ h => h) (Or.inr ⟨by rfl, rfl⟩) hHeld ?_
    simp only [Act.put, List.setIfInBounds_toArray, List.set_cons_zero, List.set_cons_succ]
    refine wpAnyH_take (i := 13) (oi := Oper.mk (some 18) _ _ _ _ _) (v := undef) rfl (by kernel_rfl) (by kernel_rfl) (by kernel_rfl) (fun _ _ _ h => h) (Or.inr ⟨by rfl, rfl⟩) hHeld ?_
    simp only [Act.put, List.setIfInBounds_toArray, List.set_cons_zero, List.set_cons_succ]
    refine wpAnyH_take (i := 14) (oi := Oper.mk (some 19) _ _ _ _ _) (v := ?v3) rfl (by kernel_rfl) (by kernel_rfl) (by kernel_rfl) (fun _ _ _ h => h) (Or.inl ⟨by rfl, ?y3⟩) hHeld ?r3
    case y3 => (intro W hSW; obtain ⟨q0, q1, q2, q3, q4, q5, q6, q7, q8, q9, q10⟩ := hSW; go_simp; try with_reducible rfl)
    simp only [Act.put, List.setIfInBounds_toArray, List.set_cons_zero, List.set_cons_succ]
    refine wpAnyH_take (i := 15) (oi := Oper.mk (some 20) _ _ _ _ _) (v := ?v4) rfl (by kernel_rfl) (by kernel_rfl) (by kernel_rfl) (fun _ _ _ h => h) (Or.inl ⟨by rfl, ?y4⟩) hHeld ?r4
    case y4 => (intro W hSW; obtain ⟨q0, q1, q2, q3, q4, q5, q6, q7, q8, q9, q10⟩ := hSW; go_simp; try with_reducible rfl)
    simp only [Act.put, List.setIfInBounds_toArray, List.set_cons_zero, List.set_cons_succ]
    refine wpAnyH_take (i := 16) (oi := Oper.mk (some 21) _ _ _ _ _) (v := undef) rfl (by kernel_rfl) (by kernel_rfl) (by kernel_rfl) (fun _ _ _ h => h) (Or.inr ⟨by rfl, rfl⟩) hHeld ?_
    simp only [Act.put, List.setIfInBounds_toArray, List.set_cons_zero, List.set_cons_succ]
    refine wpAnyH_take (i := 17) (oi := Oper.mk (some 22) _ _ _ _ _) (v := undef) rfl (by kernel_rfl) (by kernel_rfl) (by kernel_rfl) (fun _ _ _ h => h) (Or.inr ⟨by rfl, rfl⟩) hHeld ?_
    simp only [Act.put, List.setIfInBounds_toArray, List.set_cons_zero, List.set_cons_succ]
    refine wpAnyH_take (i := 18) (oi := Oper.mk (some 23) _ _ _ _ _) (v := undef) rfl (by kernel_rfl) (by kernel_rfl) (by kernel_rfl) (fun _ _ _ h => h) (Or.inr ⟨by rfl, rfl⟩) hHeld ?_
    simp only [Act.put, List.setIfInBounds_toArray, List.set_cons_zero, List.set_cons_succ]
    refine wpAnyH_take (i := 19) (oi := Oper.mk (some 24) _ _ _ _ _) (v := undef) rfl (by kernel_rfl) (by kernel_rfl) (by kernel_rfl) (fun _ _ _ h => h) (Or.inr ⟨by rfl, rfl⟩) hHeld ?_
    simp only [Act.put, List.setIfInBounds_toArray, List.set_cons_zero, List.set_cons_succ]
    refine wpAnyH_take (i := 20) (oi := Oper.mk (some 25) _ _ _ _ _) (v := undef) rfl (by kernel_rfl) (by kernel_rfl) (by kernel_rfl) (fun _ _ _ h => h) (Or.inr ⟨by rfl, rfl⟩) hHeld ?_
    simp only [Act.put, List.setIfInBounds_toArray, List.set_cons_zero, List.set_cons_succ]
    refine wpAnyH_take (i := 21) (oi := Oper.mk (some 26) _ _ _ _ _) (v := ?v5) rfl (by kernel_rfl) (by kernel_rfl) (by kernel_rfl) (fun _ _ _ h => h) (Or.inl ⟨by rfl, ?y5⟩) hHeld ?r5
    case y5 => (intro W hSW; obtain ⟨q0, q1, q2, q3, q4, q5, q6, q7, q8, q9, q10⟩ := hSW; go_simp; try with_reducible rfl)
    simp only [Act.put, List.setIfInBounds_toArray, List.set_cons_zero, List.set_cons_succ]
    refine wpAnyH_take (i := 22) (oi := Oper.mk (some 4) _ _ _ _ _) (v := ?v6) rfl (by kernel_rfl) (by kernel_rfl) (by kernel_rfl) (fun _ _ _ h => h) (Or.inl ⟨by rfl, ?y6⟩) hHeld ?r6
    case y6 => (intro W hSW; obtain ⟨q0, q1, q2, q3, q4, q5, q6, q7, q8, q9, q10⟩ := hSW; go_simp; try with_reducible rfl)
    simp only [Act.put, List.setIfInBounds_toArray, List.set_cons_zero, List.set_cons_succ]
    refine wpAnyH_done (by kernel_rfl) ?_ _
    go_wp2
    go_ret
    exact ⟨by rw [HF.out]; rfl, B1⟩
  · by_cases hK : K = 2
    · subst hK
      by_cases hN : N < (nJ : Int)
      · have HF : Hid (actI J ⟨2, nm, a, cap, L, N, un⟩ = (decide (L.length ≤ 5) && L.all (termI J))) := by unfold Hid; rw [HC.out, hok, decide_eq_true hN]; rfl
        refine wp_region_held_drew (S := fun W => W.cell? ⟨w.heap.size, 0, none⟩ = some (.string x.nm) ∧ W.cell? ⟨w.heap.size, 1, none⟩ = some (.int .i64 x.sal) ∧ W.cell? ⟨w.heap.size, 2, none⟩ = some (.slice x.aP x.nP x.cP) ∧ W.cell? ⟨w.heap.size, 3, none⟩ = some (.slice x.aC x.nC x.cC) ∧ W.cell? ⟨w.heap.size, 4, none⟩ = some (.slice x.aA x.nA x.cA) ∧ W.cell? ⟨w.heap.size, 5, none⟩ = some (.slice aJ nJ cJ) ∧ W.cell? ⟨w.heap.size + 1, 0, none⟩ = some (.int .i64 2) ∧ W.cell? ⟨w.heap.size + 1, 1, none⟩ = some (.string nm) ∧ W.cell? ⟨w.heap.size + 1, 2, none⟩ = some (.slice a L.length cap) ∧ W.cell? ⟨w.heap.size + 1, 3, none⟩ = some (.int .i64 N) ∧ W.cell? ⟨w.heap.size + 1, 4, none⟩ = some (.string un)) (by kernel_rfl) ⟨boxk_cell hA 0 _ rfl, boxk_cell hA 1 _ rfl, boxk_cell hA 2 _ rfl, boxk_cell hA 3 _ rfl, boxk_cell hA 4 _ rfl, boxk_cell hA 5 _ rfl, boxk_cell hX 0 _ rfl, boxk_cell hX 1 _ rfl, boxk_cell hX 2 _ rfl, boxk_cell hX 3 _ rfl, boxk_cell hX 4 _ rfl⟩ (fun hHeld => ?_)
        refine wpAnyH_take (i := 0) (oi := Oper.mk (some 5) _ _ _ _ _) (v := ?v7) rfl (by kernel_rfl) (by kernel_rfl) (by kernel_rfl) (fun _ _ _ h => h) (Or.inl ⟨by rfl, ?y7⟩) hHeld ?r7
        case y7 => (intro W hSW; obtain ⟨q0, q1, q2, q3, q4, q5, q6, q7, q8, q9, q10⟩ := hSW; go_simp; try with_reducible rfl)
        simp only [Act.put, List.setIfInBounds_toArray, List.set_cons_zero, List.set_cons_succ]
        refine wpAnyH_ready (rs := [1]) (by kernel_rfl) (by simp) (AllReadyH.cons (o := Oper.mk (some 6) _ _ _ _ _) rfl (fun Kk hK => ?_) AllReadyH.nil)
        go_simp
        refine (implActOk_any 2 nm a cap L N un _ f1 hrd f3 f4 f2).mono ?_
        rintro e u1 ⟨rfl, hb⟩
        rw [hok]
        have A1 := box_step hA hb
        have X1 := box_step hX hb
        have B1 := b1d.trans (hb.mono b1d.size)
        have R1 := RdK.below hrd hb
        have J1 := hrJd.below hb
        clear hb
        refine hK.out _ _ ⟨boxk_cell A1 0 _ rfl, boxk_cell A1 1 _ rfl, boxk_cell A1 2 _ rfl, boxk_cell A1 3 _ rfl, boxk_cell A1 4 _ rfl, boxk_cell A1 5 _ rfl, boxk_cell X1 0 _ rfl, boxk_cell X1 1 _ rfl, boxk_cell X1 2 _ rfl, boxk_cell X1 3 _ rfl, boxk_cell X1 4 _ rfl⟩ (fun hHeld => ?_)
        clear hK Kk
        refine wpAnyH_take (i := 2) (oi := Oper.mk (some 7) _ _ _ _ _) (v := ?v8) rfl (by kernel_rfl) (by kernel_rfl) (by kernel_rfl) (fun _ _ _ h => h) (Or.inl ⟨by rfl, ?y8⟩) hHeld ?r8
        case y8 => (intro W hSW; obtain ⟨q0, q1, q2, q3, q4, q5, q6, q7, q8, q9, q10⟩ := hSW; go_simp; try with_reducible rfl)
        simp only [Act.put, List.setIfInBounds_toArray, List.set_cons_zero, List.set_cons_succ]
        refine wpAnyH_take (i := 3) (oi := Oper.mk (some 8) _ _ _ _ _) (v := ?v9) rfl (by kernel_rfl) (by kernel_rfl) (by kernel_rfl) (fun _ _ _ h => h) (Or.inl ⟨by rfl, ?y9⟩) hHeld ?r9
        case y9 => (intro W hSW; obtain ⟨q0, q1, q2, q3, q4, q5, q6, q7, q8, q9, q10⟩ := hSW; go_simp; try with_reducible rfl)
        simp only [Act.put, List.setIfInBounds_toArray, List.set_cons_zero, List.set_cons_succ]
        refine wpAnyH_take (i := 4) (oi := Oper.mk (some 9) _ _ _ _ _) (v := ?v10) rfl (by kernel_rfl) (by kernel_rfl) (by kernel_rfl) (fun _ _ _ h => h) (Or.inl ⟨by rfl, ?y10⟩) hHeld ?r10
        case y10 => (intro W hSW; obtain ⟨q0, q1, q2, q3, q4, q5, q6, q7, q8, q9, q10⟩ := hSW; go_simp; try with_reducible rfl)
        simp only [Act.put, List.setIfInBounds_toArray, List.set_cons_zero, List.set_cons_succ]
        refine wpAnyH_take (i := 5) (oi := Oper.mk (some 10) _ _ _ _ _) (v := .bool false) rfl (by kernel_rfl) (by kernel_rfl) (by kernel_rfl) (fun _ _ _ h => h) (Or.inl ⟨by rfl, ?y11⟩) hHeld ?r11
        case y11 => (intro W hSW; obtain ⟨q0, q1, q2, q3, q4, q5, q6, q7, q8, q9, q10⟩ := hSW; go_simp; try with_reducible rfl)
        simp only [Act.put, List.setIfInBounds_toArray, List.set_cons_zero, List.set_cons_succ]
        refine wpAnyH_take (i := 6) (oi := Oper.mk (some 11) _ _ _ _ _) (v := ?v12) rfl (by kernel_rfl) (by kernel_rfl) (by kernel_rfl) (fun _ _ _ h => h) (Or.inl ⟨by rfl, ?y12⟩) hHeld ?r12
        case y12 => (intro W hSW; obtain ⟨q0, q1, q2, q3, q4, q5, q6, q7, q8, q9, q10⟩ := hSW; go_simp; try with_reducible rfl)
        simp only [Act.put, List.setIfInBounds_toArray, List.set_cons_zero, List.set_cons_succ]
        refine wpAnyH_take (i := 7) (oi := Oper.mk (some 12) _ _ _ _ _) (v := ?v13) rfl (by kernel_rfl) (by kernel_rfl) (by kernel_rfl) (fun _ _ _ h => h) (Or.inl ⟨by rfl, ?y13⟩) hHeld ?r13
        case y13 => (intro W hSW; obtain ⟨q0, q1, q2, q3, q4, q5, q6, q7, q8, q9, q10⟩ := hSW; go_simp; try with_reducible rfl)
        simp only [Act.put, List.setIfInBounds_toArray, List.set_cons_zero, List.set_cons_succ]
        refine wpAnyH_take (i := 8) (oi := Oper.mk (some 13) _ _ _ _ _) (v := ?v14) rfl (by kernel_rfl) (by kernel_rfl) (by kernel_rfl) (fun _ _ _ h => h) (Or.inl ⟨by rfl, ?y14⟩) hHeld ?r14
        case y14 => (intro W hSW; obtain ⟨q0, q1, q2, q3, q4, q5, q6, q7, q8, q9, q10⟩ := hSW; go_simp; try with_reducible rfl)
        simp only [Act.put, List.setIfInBounds_toArray, List.set_cons_zero, List.set_cons_succ]
        refine wpAnyH_take (i := 9) (oi := Oper.mk (some 14) _ _ _ _ _) (v := ?v15) rfl (by kernel_rfl) (by kernel_rfl) (by kernel_rfl) (fun _ _ _ h => h) (Or.inl ⟨by rfl, ?y15⟩) hHeld ?r15
        case y15 => (intro W hSW; obtain ⟨q0, q1, q2, q3, q4, q5, q6, q7, q8, q9, q10⟩ := hSW; go_simp; try with_reducible rfl)
        simp only [Act.put, List.setIfInBounds_toArray, List.set_cons_zero, List.set_cons_succ]
        refine wpAnyH_take (i := 10) (oi := Oper.mk (some 15) _ _ _ _ _) (v := ?v16) rfl (by kernel_rfl) (by kernel_rfl) (by kernel_rfl) (fun _ _ _ h => h) (Or.inl ⟨by rfl, ?y16⟩) hHeld ?r16
        case y16 => (intro W hSW; obtain ⟨q0, q1, q2, q3, q4, q5, q6, q7, q8, q9, q10⟩ := hSW; go_simp; try with_reducible rfl)
        simp only [Act.put, List.setIfInBounds_toArray, List.set_cons_zero, List.set_cons_succ]
        refine wpAnyH_ready (rs := [11]) (by kernel_rfl) (by simp) (AllReadyH.cons (o := Oper.mk (some 16) _ _ _ _ _) rfl (fun Kk hK => ?_) AllReadyH.nil)
        go_simp
        refine (count_any aJ nJ cJ _ (by omega)).mono ?_
        rintro e u2 ⟨rfl, rfl⟩
        refine hK.out _ _ ⟨boxk_cell A1 0 _ rfl, boxk_cell A1 1 _ rfl, boxk_cell A1 2 _ rfl, boxk_cell A1 3 _ rfl, boxk_cell A1 4 _ rfl, boxk_cell A1 5 _ rfl, boxk_cell X1 0 _ rfl, boxk_cell X1 1 _ rfl, boxk_cell X1 2 _ rfl, boxk_cell X1 3 _ rfl, boxk_cell X1 4 _ rfl⟩ (fun hHeld => ?_)
        clear hK Kk
        refine wpAnyH_take (i := 12) (oi := Oper.mk (some 17) _ _ _ _ _) (v := .bool true) rfl (by kernel_rfl) (by kernel_rfl) (by kernel_rfl) (fun _ _ _ h => h) (Or.inl ⟨by rfl, ?y17⟩) hHeld ?r17
        case y17 => (intro W hSW; obtain ⟨q0, q1, q2, q3, q4, q5, q6, q7, q8, q9, q10⟩ := hSW; go_simp; try with_reducible rfl)
        simp only [Act.put, List.setIfInBounds_toArray, List.set_cons_zero, List.set_cons_succ]
        refine wpAnyH_take (i := 13) (oi := Oper.mk (some 18) _ _ _ _ _) (v := ?v18) rfl (by kernel_rfl) (by kernel_rfl) (by kernel_rfl) (fun _ _ _ h => h) (Or.inl ⟨by rfl, ?y18⟩) hHeld ?r18
        case y18 => (intro W hSW; obtain ⟨q0, q1, q2, q3, q4, q5, q6, q7, q8, q9, q10⟩ := hSW; go_simp; try with_reducible rfl)
        simp only [Act.put, List.setIfInBounds_toArray, List.set_cons_zero, List.set_cons_succ]
        refine wpAnyH_take (i := 14) (oi := Oper.mk (some 19) _ _ _ _ _) (v := ?v19) rfl (by kernel_rfl) (by kernel_rfl) (by kernel_rfl) (fun _ _ _ h => h) (Or.inl ⟨by rfl, ?y19⟩) hHeld ?r19
        case y19 => (intro W hSW; obtain ⟨q0, q1, q2, q3, q4, q5, q6, q7, q8, q9, q10⟩ := hSW; go_simp; try with_reducible rfl)
        simp only [Act.put, List.setIfInBounds_toArray, List.set_cons_zero, List.set_cons_succ]
        refine wpAnyH_take (i := 15) (oi := Oper.mk (some 20) _ _ _ _ _) (v := ?v20) rfl (by kernel_rfl) (by kernel_rfl) (by kernel_rfl) (fun _ _ _ h => h) (Or.inl ⟨by rfl, ?y20⟩) hHeld ?r20
        case y20 => (intro W hSW; obtain ⟨q0, q1, q2, q3, q4, q5, q6, q7, q8, q9, q10⟩ := hSW; go_simp; try with_reducible rfl)
        simp only [Act.put, List.setIfInBounds_toArray, List.set_cons_zero, List.set_cons_succ]
        refine wpAnyH_take (i := 16) (oi := Oper.mk (some 21) _ _ _ _ _) (v := ?v21) rfl (by kernel_rfl) (by kernel_rfl) (by kernel_rfl) (fun _ _ _ h => h) (Or.inl ⟨by rfl, ?y21⟩) hHeld ?r21
        case y21 => (intro W hSW; obtain ⟨q0, q1, q2, q3, q4, q5, q6, q7, q8, q9, q10⟩ := hSW; go_simp; try with_reducible rfl)
        simp only [Act.put, List.setIfInBounds_toArray, List.set_cons_zero, List.set_cons_succ]
        refine wpAnyH_take (i := 17) (oi := Oper.mk (some 22) _ _ _ _ _) (v := ?v22) rfl (by kernel_rfl) (by kernel_rfl) (by kernel_rfl) (fun _ _ _ h => h) (Or.inl ⟨by rfl, ?y22⟩) hHeld ?r22
        case y22 => (intro W hSW; obtain ⟨q0, q1, q2, q3, q4, q5, q6, q7, q8, q9, q10⟩ := hSW; go_simp; try with_reducible rfl)
        simp only [Act.put, List.setIfInBounds_toArray, List.set_cons_zero, List.set_cons_succ]
        refine wpAnyH_take (i := 18) (oi := Oper.mk (some 23) _ _ _ _ _) (v := ?v23) rfl (by kernel_rfl) (by kernel_rfl) (by kernel_rfl) (fun _ _ _ h => h) (Or.inl ⟨by rfl, ?y23⟩) hHeld ?r23
        case y23 => (intro W hSW; obtain ⟨q0, q1, q2, q3, q4, q5, q6, q7, q8, q9, q10⟩ := hSW; go_simp; try with_reducible rfl)
        simp only [Act.put, List.setIfInBounds_toArray, List.set_cons_zero, List.set_cons_succ]
        refine wpAnyH_take (i := 19) (oi := Oper.mk (some 24) _ _ _ _ _) (v := ?v24) rfl (by kernel_rfl) (by kernel_rfl) (by kernel_rfl) (fun _ _ _ h => h) (Or.inl ⟨by rfl, ?y24⟩) hHeld ?r24
        case y24 => (intro W hSW; obtain ⟨q0, q1, q2, q3, q4, q5, q6, q7, q8, q9, q10⟩ := hSW; go_simp; try with_reducible rfl)
        simp only [Act.put, List.setIfInBounds_toArray, List.set_cons_zero, List.set_cons_succ]
        refine wpAnyH_ready (rs := [20]) (by kernel_rfl) (by simp) (AllReadyH.cons (o := Oper.mk (some 25) _ _ _ _ _) rfl (fun Kk hK => ?_) AllReadyH.nil)
        go_simp
        refine (listT_any a cap L.length L aJ nJ cJ J x _ rfl R1 hzJ J1 hsJ hnJ f5).mono ?_
        rintro e u3 ⟨rfl, hb⟩
        have A3 := box_step A1 hb
        have X3 := box_step X1 hb
        have B3 := B1.trans (hb.mono B1.size)
        clear hb
        refine hK.out _ _ ⟨boxk_cell A3 0 _ rfl, boxk_cell A3 1 _ rfl, boxk_cell A3 2 _ rfl, boxk_cell A3 3 _ rfl, boxk_cell A3 4 _ rfl, boxk_cell A3 5 _ rfl, boxk_cell X3 0 _ rfl, boxk_cell X3 1 _ rfl, boxk_cell X3 2 _ rfl, boxk_cell X3 3 _ rfl, boxk_cell X3 4 _ rfl⟩ (fun hHeld => ?_)
        clear hK Kk
        refine wpAnyH_take (i := 21) (oi := Oper.mk (some 26) _ _ _ _ _) (v := ?v25) rfl (by kernel_rfl) (by kernel_rfl) (by kernel_rfl) (fun _ _ _ h => h) (Or.inl ⟨by rfl, ?y25⟩) hHeld ?r25
        case y25 => (intro W hSW; obtain ⟨q0, q1, q2, q3, q4, q5, q6, q7, q8, q9, q10⟩ := hSW; go_simp; try with_reducible rfl)
        simp only [Act.put, List.setIfInBounds_toArray, List.set_cons_zero, List.set_cons_succ]
        refine wpAnyH_take (i := 22) (oi := Oper.mk (some 4) _ _ _ _ _) (v := ?v26) rfl (by kernel_rfl) (by kernel_rfl) (by kernel_rfl) (fun _ _ _ h => h) (Or.inl ⟨by rfl, ?y26⟩) hHeld ?r26
        case y26 => (intro W hSW; obtain ⟨q0, q1, q2, q3, q4, q5, q6, q7, q8, q9, q10⟩ := hSW; go_simp; try with_reducible rfl)
        simp only [Act.put, List.setIfInBounds_toArray, List.set_cons_zero, List.set_cons_succ]
        refine wpAnyH_done (by kernel_rfl) ?_ _
        go_wp2
        go_ret
        exact ⟨by rw [HF.out]; rfl, B3⟩
      · have HF : Hid (actI J ⟨2, nm, a, cap, L, N, un⟩ = false) := by unfold Hid; rw [HC.out, hok, decide_eq_false hN]; rfl
        refine wp_region_held_drew (S := fun W => W.cell? ⟨w.heap.size, 0, none⟩ = some (.string x.nm) ∧ W.cell? ⟨w.heap.size, 1, none⟩ = some (.int .i64 x.sal) ∧ W.cell? ⟨w.heap.size, 2, none⟩ = some (.slice x.aP x.nP x.cP) ∧ W.cell? ⟨w.heap.size, 3, none⟩ = some (.slice x.aC x.nC x.cC) ∧ W.cell? ⟨w.heap.size, 4, none⟩ = some (.slice x.aA x.nA x.cA) ∧ W.cell? ⟨w.heap.size, 5, none⟩ = some (.slice aJ nJ cJ) ∧ W.cell? ⟨w.heap.size + 1, 0, none⟩ = some (.int .i64 2) ∧ W.cell? ⟨w.heap.size + 1, 1, none⟩ = some (.string nm) ∧ W.cell? ⟨w.heap.size + 1, 2, none⟩ = some (.slice a L.length cap) ∧ W.cell? ⟨w.heap.size + 1, 3, none⟩ = some (.int .i64 N) ∧ W.cell? ⟨w.heap.size + 1, 4, none⟩ = some (.string un)) (by kernel_rfl) ⟨boxk_cell hA 0 _ rfl, boxk_cell hA 1 _ rfl, boxk_cell hA 2 _ rfl, boxk_cell hA 3 _ rfl, boxk_cell hA 4 _ rfl, boxk_cell hA 5 _ rfl, boxk_cell hX 0 _ rfl, boxk_cell hX 1 _ rfl, boxk_cell hX 2 _ rfl, boxk_cell hX 3 _ rfl, boxk_cell hX 4 _ rfl⟩ (fun hHeld => ?_)
        refine wpAnyH_take (i := 0) (oi := Oper.mk (some 5) _ _ _ _ _) (v := ?v27) rfl (by kernel_rfl) (by kernel_rfl) (by kernel_rfl) (fun _ _ _ h => h) (Or.inl ⟨by rfl, ?y27⟩) hHeld ?r27
        case y27 => (intro W hSW; obtain ⟨q0, q1, q2, q3, q4, q5, q6, q7, q8, q9, q10⟩ := hSW; go_simp; try with_reducible rfl)
        simp only [Act.put, List.setIfInBounds_toArray, List.set_cons_zero, List.set_cons_succ]
        refine wpAnyH_ready (rs := [1]) (by kernel_rfl) (by simp) (AllReadyH.cons (o := Oper.mk (some 6) _ _ _ _ _) rfl (fun Kk hK => ?_) AllReadyH.nil)
        go_simp
        refine (implActOk_any 2 nm a cap L N un _ f1 hrd f3 f4 f2).mono ?_
        rintro e u1 ⟨rfl, hb⟩
        rw [hok]
        have A1 := box_step hA hb
        have X1 := box_step hX hb
        have B1 := b1d.trans (hb.mono b1d.size)
        have R1 := RdK.below hrd hb
        have J1 := hrJd.below hb
        clear hb
        refine hK.out _ _ ⟨boxk_cell A1 0 _ rfl, boxk_cell A1 1 _ rfl, boxk_cell A1 2 _ rfl, boxk_cell A1 3 _ rfl, boxk_cell A1 4 _ rfl, boxk_cell A1 5 _ rfl, boxk_cell X1 0 _ rfl, boxk_cell X1 1 _ rfl, boxk_cell X1 2 _ rfl, boxk_cell X1 3 _ rfl, boxk_cell X1 4 _ rfl⟩ (fun hHeld => ?_)
        clear hK Kk
        refine wpAnyH_take (i := 2) (oi := Oper.mk (some 7) _ _ _ _ _) (v := ?v28) rfl (by kernel_rfl) (by kernel_rfl) (by kernel_rfl) (fun _ _ _ h => h) (Or.inl ⟨by rfl, ?y28⟩) hHeld ?r28
        case y28 => (intro W hSW; obtain ⟨q0, q1, q2, q3, q4, q5, q6, q7, q8, q9, q10⟩ := hSW; go_simp; try with_reducible rfl)
        simp only [Act.put, List.setIfInBounds_toArray, List.set_cons_zero, List.set_cons_succ]
        refine wpAnyH_take (i := 3) (oi := Oper.mk (some 8) _ _ _ _ _) (v := ?v29) rfl (by kernel_rfl) (by kernel_rfl) (by kernel_rfl) (fun _ _ _ h => h) (Or.inl ⟨by rfl, ?y29⟩) hHeld ?r29
        case y29 => (intro W hSW; obtain ⟨q0, q1, q2, q3, q4, q5, q6, q7, q8, q9, q10⟩ := hSW; go_simp; try with_reducible rfl)
        simp only [Act.put, List.setIfInBounds_toArray, List.set_cons_zero, List.set_cons_succ]
        refine wpAnyH_take (i := 4) (oi := Oper.mk (some 9) _ _ _ _ _) (v := ?v30) rfl (by kernel_rfl) (by kernel_rfl) (by kernel_rfl) (fun _ _ _ h => h) (Or.inl ⟨by rfl, ?y30⟩) hHeld ?r30
        case y30 => (intro W hSW; obtain ⟨q0, q1, q2, q3, q4, q5, q6, q7, q8, q9, q10⟩ := hSW; go_simp; try with_reducible rfl)
        simp only [Act.put, List.setIfInBounds_toArray, List.set_cons_zero, List.set_cons_succ]
        refine wpAnyH_take (i := 5) (oi := Oper.mk (some 10) _ _ _ _ _) (v := .bool false) rfl (by kernel_rfl) (by kernel_rfl) (by kernel_rfl) (fun _ _ _ h => h) (Or.inl ⟨by rfl, ?y31⟩) hHeld ?r31
        case y31 => (intro W hSW; obtain ⟨q0, q1, q2, q3, q4, q5, q6, q7, q8, q9, q10⟩ := hSW; go_simp; try with_reducible rfl)
        simp only [Act.put, List.setIfInBounds_toArray, List.set_cons_zero, List.set_cons_succ]
        refine wpAnyH_take (i := 6) (oi := Oper.mk (some 11) _ _ _ _ _) (v := ?v32) rfl (by kernel_rfl) (by kernel_rfl) (by kernel_rfl) (fun _ _ _ h => h) (Or.inl ⟨by rfl, ?y32⟩) hHeld ?r32
        case y32 => (intro W hSW; obtain ⟨q0, q1, q2, q3, q4, q5, q6, q7, q8, q9, q10⟩ := hSW; go_simp; try with_reducible rfl)
        simp only [Act.put, List.setIfInBounds_toArray, List.set_cons_zero, List.set_cons_succ]
        refine wpAnyH_take (i := 7) (oi := Oper.mk (some 12) _ _ _ _ _) (v := ?v33) rfl (by kernel_rfl) (by kernel_rfl) (by kernel_rfl) (fun _ _ _ h => h) (Or.inl ⟨by rfl, ?y33⟩) hHeld ?r33
        case y33 => (intro W hSW; obtain ⟨q0, q1, q2, q3, q4, q5, q6, q7, q8, q9, q10⟩ := hSW; go_simp; try with_reducible rfl)
        simp only [Act.put, List.setIfInBounds_toArray, List.set_cons_zero, List.set_cons_succ]
        refine wpAnyH_take (i := 8) (oi := Oper.mk (some 13) _ _ _ _ _) (v := ?v34) rfl (by kernel_rfl) (by kernel_rfl) (by kernel_rfl) (fun _ _ _ h => h) (Or.inl ⟨by rfl, ?y34⟩) hHeld ?r34
        case y34 => (intro W hSW; obtain ⟨q0, q1, q2, q3, q4, q5, q6, q7, q8, q9, q10⟩ := hSW; go_simp; try with_reducible rfl)
        simp only [Act.put, List.setIfInBounds_toArray, List.set_cons_zero, List.set_cons_succ]
        refine wpAnyH_take (i := 9) (oi := Oper.mk (some 14) _ _ _ _ _) (v := ?v35) rfl (by kernel_rfl) (by kernel_rfl) (by kernel_rfl) (fun _ _ _ h => h) (Or.inl ⟨by rfl, ?y35⟩) hHeld ?r35
        case y35 => (intro W hSW; obtain ⟨q0, q1, q2, q3, q4, q5, q6, q7, q8, q9, q10⟩ := hSW; go_simp; try with_reducible rfl)
        simp only [Act.put, List.setIfInBounds_toArray, List.set_cons_zero, List.set_cons_succ]
        refine wpAnyH_take (i := 10) (oi := Oper.mk (some 15) _ _ _ _ _) (v := ?v36) rfl (by kernel_rfl) (by kernel_rfl) (by kernel_rfl) (fun _ _ _ h => h) (Or.inl ⟨by rfl, ?y36⟩) hHeld ?r36
        case y36 => (intro W hSW; obtain ⟨q0, q1, q2, q3, q4, q5, q6, q7, q8, q9, q10⟩ := hSW; go_simp; try with_reducible rfl)
        simp only [Act.put, List.setIfInBounds_toArray, List.set_cons_zero, List.set_cons_succ]
        refine wpAnyH_ready (rs := [11]) (by kernel_rfl) (by simp) (AllReadyH.cons (o := Oper.mk (some 16) _ _ _ _ _) rfl (fun Kk hK => ?_) AllReadyH.nil)
        go_simp
        refine (count_any aJ nJ cJ _ (by omega)).mono ?_
        rintro e u2 ⟨rfl, rfl⟩
        refine hK.out _ _ ⟨boxk_cell A1 0 _ rfl, boxk_cell A1 1 _ rfl, boxk_cell A1 2 _ rfl, boxk_cell A1 3 _ rfl, boxk_cell A1 4 _ rfl, boxk_cell A1 5 _ rfl, boxk_cell X1 0 _ rfl, boxk_cell X1 1 _ rfl, boxk_cell X1 2 _ rfl, boxk_cell X1 3 _ rfl, boxk_cell X1 4 _ rfl⟩ (fun hHeld => ?_)
        clear hK Kk
        refine wpAnyH_take (i := 12) (oi := Oper.mk (some 17) _ _ _ _ _) (v := .bool false) rfl (by kernel_rfl) (by kernel_rfl) (by kernel_rfl) (fun _ _ _ h => h) (Or.inl ⟨by rfl, ?y37⟩) hHeld ?r37
        case y37 => (intro W hSW; obtain ⟨q0, q1, q2, q3, q4, q5, q6, q7, q8, q9, q10⟩ := hSW; go_simp; try with_reducible rfl)
        simp only [Act.put, List.setIfInBounds_toArray, List.set_cons_zero, List.set_cons_succ]
        refine wpAnyH_take (i := 13) (oi := Oper.mk (some 18) _ _ _ _ _) (v := ?v38) rfl (by kernel_rfl) (by kernel_rfl) (by kernel_rfl) (fun _ _ _ h => h) (Or.inl ⟨by rfl, ?y38⟩) hHeld ?r38
        case y38 => (intro W hSW; obtain ⟨q0, q1, q2, q3, q4, q5, q6, q7, q8, q9, q10⟩ := hSW; go_simp; try with_reducible rfl)
        simp only [Act.put, List.setIfInBounds_toArray, List.set_cons_zero, List.set_cons_succ]
        refine wpAnyH_take (i := 14) (oi := Oper.mk (some 19) _ _ _ _ _) (v := ?v39) rfl (by kernel_rfl) (by kernel_rfl) (by kernel_rfl) (fun _ _ _ h => h) (Or.inl ⟨by rfl, ?y39⟩) hHeld ?r39
        case y39 => (intro W hSW; obtain ⟨q0, q1, q2, q3, q4, q5, q6, q7, q8, q9, q10⟩ := hSW; go_simp; try with_reducible rfl)
        simp only [Act.put, List.setIfInBounds_toArray, List.set_cons_zero, List.set_cons_succ]
        refine wpAnyH_take (i := 15) (oi := Oper.mk (some 20) _ _ _ _ _) (v := ?v40) rfl (by kernel_rfl) (by kernel_rfl) (by kernel_rfl) (fun _ _ _ h => h) (Or.inl ⟨by rfl, ?y40⟩) hHeld ?r40
        case y40 => (intro W hSW; obtain ⟨q0, q1, q2, q3, q4, q5, q6, q7, q8, q9, q10⟩ := hSW; go_simp; try with_reducible rfl)
        simp only [Act.put, List.setIfInBounds_toArray, List.set_cons_zero, List.set_cons_succ]
        refine wpAnyH_take (i := 16) (oi := Oper.mk (some 21) _ _ _ _ _) (v := undef) rfl (by kernel_rfl) (by kernel_rfl) (by kernel_rfl) (fun _ _ _ h => h) (Or.inr ⟨by rfl, rfl⟩) hHeld ?_
        simp only [Act.put, List.setIfInBounds_toArray, List.set_cons_zero, List.set_cons_succ]
        refine wpAnyH_take (i := 17) (oi := Oper.mk (some 22) _ _ _ _ _) (v := undef) rfl (by kernel_rfl) (by kernel_rfl) (by kernel_rfl) (fun _ _ _ h => h) (Or.inr ⟨by rfl, rfl⟩) hHeld ?_
        simp only [Act.put, List.setIfInBounds_toArray, List.set_cons_zero, List.set_cons_succ]
        refine wpAnyH_take (i := 18) (oi := Oper.mk (some 23) _ _ _ _ _) (v := undef) rfl (by kernel_rfl) (by kernel_rfl) (by kernel_rfl) (fun _ _ _ h => h) (Or.inr ⟨by rfl, rfl⟩) hHeld ?_
        simp only [Act.put, List.setIfInBounds_toArray, List.set_cons_zero, List.set_cons_succ]
        refine wpAnyH_take (i := 19) (oi := Oper.mk (some 24) _ _ _ _ _) (v := undef) rfl (by kernel_rfl) (by kernel_rfl) (by kernel_rfl) (fun _ _ _ h => h) (Or.inr ⟨by rfl, rfl⟩) hHeld ?_
        simp only [Act.put, List.setIfInBounds_toArray, List.set_cons_zero, List.set_cons_succ]
        refine wpAnyH_take (i := 20) (oi := Oper.mk (some 25) _ _ _ _ _) (v := undef) rfl (by kernel_rfl) (by kernel_rfl) (by kernel_rfl) (fun _ _ _ h => h) (Or.inr ⟨by rfl, rfl⟩) hHeld ?_
        simp only [Act.put, List.setIfInBounds_toArray, List.set_cons_zero, List.set_cons_succ]
        refine wpAnyH_take (i := 21) (oi := Oper.mk (some 26) _ _ _ _ _) (v := ?v41) rfl (by kernel_rfl) (by kernel_rfl) (by kernel_rfl) (fun _ _ _ h => h) (Or.inl ⟨by rfl, ?y41⟩) hHeld ?r41
        case y41 => (intro W hSW; obtain ⟨q0, q1, q2, q3, q4, q5, q6, q7, q8, q9, q10⟩ := hSW; go_simp; try with_reducible rfl)
        simp only [Act.put, List.setIfInBounds_toArray, List.set_cons_zero, List.set_cons_succ]
        refine wpAnyH_take (i := 22) (oi := Oper.mk (some 4) _ _ _ _ _) (v := ?v42) rfl (by kernel_rfl) (by kernel_rfl) (by kernel_rfl) (fun _ _ _ h => h) (Or.inl ⟨by rfl, ?y42⟩) hHeld ?r42
        case y42 => (intro W hSW; obtain ⟨q0, q1, q2, q3, q4, q5, q6, q7, q8, q9, q10⟩ := hSW; go_simp; try with_reducible rfl)
        simp only [Act.put, List.setIfInBounds_toArray, List.set_cons_zero, List.set_cons_succ]
        refine wpAnyH_done (by kernel_rfl) ?_ _
        go_wp2
        go_ret
        exact ⟨by rw [HF.out]; rfl, B1⟩
    · have HF : Hid (actI J ⟨K, nm, a, cap, L, N, un⟩ = (decide (L.length ≤ 5) && L.all (termI J))) := by unfold Hid; rw [HC.out, hok, decide_eq_false hK]; rfl
      have kk : (K != 2) = true := by simpa using hK
      clear hK
      refine wp_region_held_drew (S := fun W => W.cell? ⟨w.heap.size, 0, none⟩ = some (.string x.nm) ∧ W.cell? ⟨w.heap.size, 1, none⟩ = some (.int .i64 x.sal) ∧ W.cell? ⟨w.heap.size, 2, none⟩ = some (.slice x.aP x.nP x.cP) ∧ W.cell? ⟨w.heap.size, 3, none⟩ = some (.slice x.aC x.nC x.cC) ∧ W.cell? ⟨w.heap.size, 4, none⟩ = some (.slice x.aA x.nA x.cA) ∧ W.cell? ⟨w.heap.size, 5, none⟩ = some (.slice aJ nJ cJ) ∧ W.cell? ⟨w.heap.size + 1, 0, none⟩ = some (.int .i64 K) ∧ W.cell? ⟨w.heap.size + 1, 1, none⟩ = some (.string nm) ∧ W.cell? ⟨w.heap.size + 1, 2, none⟩ = some (.slice a L.length cap) ∧ W.cell? ⟨w.heap.size + 1, 3, none⟩ = some (.int .i64 N) ∧ W.cell? ⟨w.heap.size + 1, 4, none⟩ = some (.string un)) (by kernel_rfl) ⟨boxk_cell hA 0 _ rfl, boxk_cell hA 1 _ rfl, boxk_cell hA 2 _ rfl, boxk_cell hA 3 _ rfl, boxk_cell hA 4 _ rfl, boxk_cell hA 5 _ rfl, boxk_cell hX 0 _ rfl, boxk_cell hX 1 _ rfl, boxk_cell hX 2 _ rfl, boxk_cell hX 3 _ rfl, boxk_cell hX 4 _ rfl⟩ (fun hHeld => ?_)
      refine wpAnyH_take (i := 0) (oi := Oper.mk (some 5) _ _ _ _ _) (v := ?v43) rfl (by kernel_rfl) (by kernel_rfl) (by kernel_rfl) (fun _ _ _ h => h) (Or.inl ⟨by rfl, ?y43⟩) hHeld ?r43
      case y43 => (intro W hSW; obtain ⟨q0, q1, q2, q3, q4, q5, q6, q7, q8, q9, q10⟩ := hSW; go_simp; try with_reducible rfl)
      simp only [Act.put, List.setIfInBounds_toArray, List.set_cons_zero, List.set_cons_succ]
      refine wpAnyH_ready (rs := [1]) (by kernel_rfl) (by simp) (AllReadyH.cons (o := Oper.mk (some 6) _ _ _ _ _) rfl (fun Kk hK => ?_) AllReadyH.nil)
      go_simp
      refine (implActOk_any K nm a cap L N un _ f1 hrd f3 f4 f2).mono ?_
      rintro e u1 ⟨rfl, hb⟩
      rw [hok]
      have A1 := box_step hA hb
      have X1 := box_step hX hb
      have B1 := b1d.trans (hb.mono b1d.size)
      have R1 := RdK.below hrd hb
      have J1 := hrJd.below hb
      clear hb
      refine hK.out _ _ ⟨boxk_cell A1 0 _ rfl, boxk_cell A1 1 _ rfl, boxk_cell A1 2 _ rfl, boxk_cell A1 3 _ rfl, boxk_cell A1 4 _ rfl, boxk_cell A1 5 _ rfl, boxk_cell X1 0 _ rfl, boxk_cell X1 1 _ rfl, boxk_cell X1 2 _ rfl, boxk_cell X1 3 _ rfl, boxk_cell X1 4 _ rfl⟩ (fun hHeld => ?_)
      clear hK Kk
      refine wpAnyH_take (i := 2) (oi := Oper.mk (some 7) _ _ _ _ _) (v := ?v44) rfl (by kernel_rfl) (by kernel_rfl) (by kernel_rfl) (fun _ _ _ h => h) (Or.inl ⟨by rfl, ?y44⟩) hHeld ?r44
      case y44 => (intro W hSW; obtain ⟨q0, q1, q2, q3, q4, q5, q6, q7, q8, q9, q10⟩ := hSW; go_simp; try with_reducible rfl)
      simp only [Act.put, List.setIfInBounds_toArray, List.set_cons_zero, List.set_cons_succ]
      refine wpAnyH_take (i := 3) (oi := Oper.mk (some 8) _ _ _ _ _) (v := ?v45) rfl (by kernel_rfl) (by kernel_rfl) (by kernel_rfl) (fun _ _ _ h => h) (Or.inl ⟨by rfl, ?y45⟩) hHeld ?r45
      case y45 => (intro W hSW; obtain ⟨q0, q1, q2, q3, q4, q5, q6, q7, q8, q9, q10⟩ := hSW; go_simp; try with_reducible rfl)
      simp only [Act.put, List.setIfInBounds_toArray, List.set_cons_zero, List.set_cons_succ]
      refine wpAnyH_take (i := 4) (oi := Oper.mk (some 9) _ _ _ _ _) (v := ?v46) rfl (by kernel_rfl) (by kernel_rfl) (by kernel_rfl) (fun _ _ _ h => h) (Or.inl ⟨by rfl, ?y46⟩) hHeld ?r46
      case y46 => (intro W hSW; obtain ⟨q0, q1, q2, q3, q4, q5, q6, q7, q8, q9, q10⟩ := hSW; go_simp; try with_reducible rfl)
      simp only [Act.put, List.setIfInBounds_toArray, List.set_cons_zero, List.set_cons_succ]
      refine wpAnyH_take (i := 5) (oi := Oper.mk (some 10) _ _ _ _ _) (v := .bool true) rfl (by kernel_rfl) (by kernel_rfl) (by kernel_rfl) (fun _ _ _ h => h) (Or.inl ⟨by rfl, ?y47⟩) hHeld ?r47
      case y47 => (intro W hSW; obtain ⟨q0, q1, q2, q3, q4, q5, q6, q7, q8, q9, q10⟩ := hSW; go_simp; try with_reducible rfl)
      simp only [Act.put, List.setIfInBounds_toArray, List.set_cons_zero, List.set_cons_succ]
      refine wpAnyH_take (i := 6) (oi := Oper.mk (some 11) _ _ _ _ _) (v := ?v48) rfl (by kernel_rfl) (by kernel_rfl) (by kernel_rfl) (fun _ _ _ h => h) (Or.inl ⟨by rfl, ?y48⟩) hHeld ?r48
      case y48 => (intro W hSW; obtain ⟨q0, q1, q2, q3, q4, q5, q6, q7, q8, q9, q10⟩ := hSW; go_simp; try with_reducible rfl)
      simp only [Act.put, List.setIfInBounds_toArray, List.set_cons_zero, List.set_cons_succ]
      refine wpAnyH_take (i := 7) (oi := Oper.mk (some 12) _ _ _ _ _) (v := undef) rfl (by kernel_rfl) (by kernel_rfl) (by kernel_rfl) (fun _ _ _ h => h) (Or.inr ⟨by rfl, rfl⟩) hHeld ?_
      simp only [Act.put, List.setIfInBounds_toArray, List.set_cons_zero, List.set_cons_succ]
      refine wpAnyH_take (i := 8) (oi := Oper.mk (some 13) _ _ _ _ _) (v := undef) rfl (by kernel_rfl) (by kernel_rfl) (by kernel_rfl) (fun _ _ _ h => h) (Or.inr ⟨by rfl, rfl⟩) hHeld ?_
      simp only [Act.put, List.setIfInBounds_toArray, List.set_cons_zero, List.set_cons_succ]
      refine wpAnyH_take (i := 9) (oi := Oper.mk (some 14) _ _ _ _ _) (v := undef) rfl (by kernel_rfl) (by kernel_rfl) (by kernel_rfl) (fun _ _ _ h => h) (Or.inr ⟨by rfl, rfl⟩) hHeld ?_
      simp only [Act.put, List.setIfInBounds_toArray, List.set_cons_zero, List.set_cons_succ]
      refine wpAnyH_take (i := 10) (oi := Oper.mk (some 15) _ _ _ _ _) (v := undef) rfl (by kernel_rfl) (by kernel_rfl) (by kernel_rfl) (fun _ _ _ h => h) (Or.inr ⟨by rfl, rfl⟩) hHeld ?_
      simp only [Act.put, List.setIfInBounds_toArray, List.set_cons_zero, List.set_cons_succ]
      refine wpAnyH_take (i := 11) (oi := Oper.mk (some 16) _ _ _ _ _) (v := undef) rfl (by kernel_rfl) (by kernel_rfl) (by kernel_rfl) (fun _ _ _ h => h) (Or.inr ⟨by rfl, rfl⟩) hHeld ?_
      simp only [Act.put, List.setIfInBounds_toArray, List.set_cons_zero, List.set_cons_succ]
      refine wpAnyH_take (i := 12) (oi := Oper.mk (some 17) _ _ _ _ _) (v := undef) rfl (by kernel_rfl) (by kernel_rfl) (by kernel_rfl) (fun _ _ _ h => h) (Or.inr ⟨by rfl, rfl⟩) hHeld ?_
      simp only [Act.put, List.setIfInBounds_toArray, List.set_cons_zero, List.set_cons_succ]
      refine wpAnyH_take (i := 13) (oi := Oper.mk (some 18) _ _ _ _ _) (v := ?v49) rfl (by kernel_rfl) (by kernel_rfl) (by kernel_rfl) (fun _ _ _ h => h) (Or.inl ⟨by rfl, ?y49⟩) hHeld ?r49
      case y49 => (intro W hSW; obtain ⟨q0, q1, q2, q3, q4, q5, q6, q7, q8, q9, q10⟩ := hSW; go_simp; try with_reducible rfl)
      simp only [Act.put, List.setIfInBounds_toArray, List.set_cons_zero, List.set_cons_succ]
      refine wpAnyH_take (i := 14) (oi := Oper.mk (some 19) _ _ _ _ _) (v := ?v50) rfl (by kernel_rfl) (by kernel_rfl) (by kernel_rfl) (fun _ _ _ h => h) (Or.inl ⟨by rfl, ?y50⟩) hHeld ?r50
      case y50 => (intro W hSW; obtain ⟨q0, q1, q2, q3, q4, q5, q6, q7, q8, q9, q10⟩ := hSW; go_simp; try with_reducible rfl)
      simp only [Act.put, List.setIfInBounds_toArray, List.set_cons_zero, List.set_cons_succ]
      refine wpAnyH_take (i := 15) (oi := Oper.mk (some 20) _ _ _ _ _) (v := ?v51) rfl (by kernel_rfl) (by kernel_rfl) (by kernel_rfl) (fun _ _ _ h => h) (Or.inl ⟨by rfl, ?y51⟩) hHeld ?r51
      case y51 => (intro W hSW; obtain ⟨q0, q1, q2, q3, q4, q5, q6, q7, q8, q9, q10⟩ := hSW; go_simp; try with_reducible rfl)
      simp only [Act.put, List.setIfInBounds_toArray, List.set_cons_zero, List.set_cons_succ]
      refine wpAnyH_take (i := 16) (oi := Oper.mk (some 21) _ _ _ _ _) (v := ?v52) rfl (by kernel_rfl) (by kernel_rfl) (by kernel_rfl) (fun _ _ _ h => h) (Or.inl ⟨by rfl, ?y52⟩) hHeld ?r52
      case y52 => (intro W hSW; obtain ⟨q0, q1, q2, q3, q4, q5, q6, q7, q8, q9, q10⟩ := hSW; go_simp; try with_reducible rfl)
      simp only [Act.put, List.setIfInBounds_toArray, List.set_cons_zero, List.set_cons_succ]
      refine wpAnyH_take (i := 17) (oi := Oper.mk (some 22) _ _ _ _ _) (v := ?v53) rfl (by kernel_rfl) (by kernel_rfl) (by kernel_rfl) (fun _ _ _ h => h) (Or.inl ⟨by rfl, ?y53⟩) hHeld ?r53
      case y53 => (intro W hSW; obtain ⟨q0, q1, q2, q3, q4, q5, q6, q7, q8, q9, q10⟩ := hSW; go_simp; try with_reducible rfl)
      simp only [Act.put, List.setIfInBounds_toArray, List.set_cons_zero, List.set_cons_succ]
      refine wpAnyH_take (i := 18) (oi := Oper.mk (some 23) _ _ _ _ _) (v := ?v54) rfl (by kernel_rfl) (by kernel_rfl) (by kernel_rfl) (fun _ _ _ h => h) (Or.inl ⟨by rfl, ?y54⟩) hHeld ?r54
      case y54 => (intro W hSW; obtain ⟨q0, q1, q2, q3, q4, q5, q6, q7, q8, q9, q10⟩ := hSW; go_simp; try with_reducible rfl)
      simp only [Act.put, List.setIfInBounds_toArray, List.set_cons_zero, List.set_cons_succ]
      refine wpAnyH_take (i := 19) (oi := Oper.mk (some 24) _ _ _ _ _) (v := ?v55) rfl (by kernel_rfl) (by kernel_rfl) (by kernel_rfl) (fun _ _ _ h => h) (Or.inl ⟨by rfl, ?y55⟩) hHeld ?r55
      case y55 => (intro W hSW; obtain ⟨q0, q1, q2, q3, q4, q5, q6, q7, q8, q9, q10⟩ := hSW; go_simp; try with_reducible rfl)
      simp only [Act.put, List.setIfInBounds_toArray, List.set_cons_zero, List.set_cons_succ]
      refine wpAnyH_ready (rs := [20]) (by kernel_rfl) (by simp) (AllReadyH.cons (o := Oper.mk (some 25) _ _ _ _ _) rfl (fun Kk hK => ?_) AllReadyH.nil)
      go_simp
      refine (listT_any a cap L.length L aJ nJ cJ J x _ rfl R1 hzJ J1 hsJ hnJ f5).mono ?_
      rintro e u3 ⟨rfl, hb⟩
      have A3 := box_step A1 hb
      have X3 := box_step X1 hb
      have B3 := B1.trans (hb.mono B1.size)
      clear hb
      refine hK.out _ _ ⟨boxk_cell A3 0 _ rfl, boxk_cell A3 1 _ rfl, boxk_cell A3 2 _ rfl, boxk_cell A3 3 _ rfl, boxk_cell A3 4 _ rfl, boxk_cell A3 5 _ rfl, boxk_cell X3 0 _ rfl, boxk_cell X3 1 _ rfl, boxk_cell X3 2 _ rfl, boxk_cell X3 3 _ rfl, boxk_cell X3 4 _ rfl⟩ (fun hHeld => ?_)
      clear hK Kk
      refine wpAnyH_take (i := 21) (oi := Oper.mk (some 26) _ _ _ _ _) (v := ?v56) rfl (by kernel_rfl) (by kernel_rfl) (by kernel_rfl) (fun _ _ _ h => h) (Or.inl ⟨by rfl, ?y56⟩) hHeld ?r56
      case y56 => (intro W hSW; obtain ⟨q0, q1, q2, q3, q4, q5, q6, q7, q8, q9, q10⟩ := hSW; go_simp; try with_reducible rfl)
      simp only [Act.put, List.setIfInBounds_toArray, List.set_cons_zero, List.set_cons_succ]
      refine wpAnyH_take (i := 22) (oi := Oper.mk (some 4) _ _ _ _ _) (v := ?v57) rfl (by kernel_rfl) (by kernel_rfl) (by kernel_rfl) (fun _ _ _ h => h) (Or.inl ⟨by rfl, ?y57⟩) hHeld ?r57
      case y57 => (intro W hSW; obtain ⟨q0, q1, q2, q3, q4, q5, q6, q7, q8, q9, q10⟩ := hSW; go_simp; try with_reducible rfl)
      simp only [Act.put, List.setIfInBounds_toArray, List.set_cons_zero, List.set_cons_succ]
      refine wpAnyH_done (by kernel_rfl) ?_ _
      go_wp2
      go_ret
      exact ⟨by rw [HF.out]; rfl, B3⟩

set_option maxRecDepth 100000 in
set_option maxHeartbeats 3200000 in
theorem listQ_any (a : Option Addr) (cap n : Nat) (L : List QE) (aJ : Option Addr) (nJ cJ : Nat) (J : List PE) (x : RE) (w : World) (hz : L.length = n) (hr : RdActS w a L) (hzJ : J.length = nJ) (hrJ : RdPatS w aJ J) (hsJ : ∀ p ∈ J, p.small) (hnJ : nJ ≤ 1048576) (hs : ∀ p ∈ L, p.small) (hm : n ≤ 1048580) :
    Calls Tryz.prog 64 #[.slice a n cap, .int .i64 1, .int .i64 6, .func (.func 65) #[.agg #[.string x.nm, .int .i64 x.sal, .slice x.aP x.nP x.cP, .slice x.aC x.nC x.cC, .slice x.aA x.nA x.cA, .slice aJ nJ cJ]] #[]] w fun e w' =>
      e = .returned (.bool (inB n 1 6 && L.all (actI J))) ∧ Below w.heap.size w w' := by
  have HN := hide hz.symm
  clear hz
  by_cases h5 : 1 ≤ n ∧ n ≤ 6
  · have HF : Hid ((inB n 1 6 && L.all (actI J)) = L.all (actI J)) := by unfold Hid; rw [inB_t (by omega)]; rfl
    go_enter Tryz.func64, Tryz.ntmps64
    go_wp2
    go_loopw [23] (fun i wr => ∃ (k : Nat), k ≤ n ∧ i = .int .i64 k ∧ (∀ j, j < k → (actI J) (eAt L j) = true) ∧ Below w.heap.size w wr) (fun i _ => n - (intOf i).toNat)
    case atStart => exact ⟨0, Nat.zero_le _, rfl, fun j hj => absurd hj (Nat.not_lt_zero _), Below.refl _ _⟩
    case round =>
      obtain ⟨k, hk, rfl, hall, hbel⟩ := hrel
      have HA := hide hall
      clear hall
      by_cases hlt : k < n
      · have hlL : k < L.length := by rw [← HN.out]; exact hlt
        obtain ⟨b, off, hab, hbw, hc⟩ := (hr.below hbel).cells (by omega)
        obtain ⟨c0, c1, c2, c3, c4, hin⟩ := hc k hlL
        clear hc
        subst hab
        have hS := hs _ (eAt_mem hlL)
        have HNo : Hid ((actI J) (eAt L k) = false → L.all (actI J) = false) := fun h => by rw [Bool.eq_false_iff]; intro ht; rw [all_eAt.1 ht k hlL] at h; cases h
        have HNk : Hid ((actI J) (eAt L k) = true → ∀ j, j < k + 1 → (actI J) (eAt L j) = true) := fun h j hj => by
          by_cases e : j = k
          · rw [e]; exact h
          · exact HA.out j (by omega)
        have HIn := hide hin
        clear hin
        generalize eAt L k = y at c0 c1 c2 c3 c4 hS HNo HNk HIn
        have hbel1 := hbel.alloc hbel.size (.cells #[.int .i64 y.K, .string y.nm, .slice y.a y.L.length y.cap, .int .i64 y.N, .string y.un] 69)
        go_wp2_with fail
        refine (actOk_any y aJ nJ cJ J x _ hS (HIn.out.below (below_al _ _)) hzJ (hrJ.below hbel1) hsJ hnJ).mono ?_
        rintro e w2 ⟨rfl, hb2⟩
        have hbel2 : Below w.heap.size w w2 := hbel1.trans (hb2.mono hbel1.size)
        clear hb2 hS c0 c1 c2 c3 c4 hbel hbel1
        generalize (actI J) y = bb at HNo HNk ⊢
        cases bb
        · have HV := hide (HNo.out rfl)
          clear HNo HNk
          go_wp2
          go_ret
          exact ⟨ret_bool (by rw [HF.out, HV.out]), hbel2⟩
        · have HV := hide (HNk.out rfl)
          clear HNo HNk
          go_wp2
          go_roundw
          case rel => exact ⟨k + 1, by omega, by go_num, HV.out, hbel2⟩
          case measure => simp [intOf]; omega
      · have HV : Hid (L.all (actI J) = true) := all_eAt.2 (fun j hj => HA.out j (by rw [← HN.out] at hj; omega))
        go_wp2
        go_ret
        exact ⟨ret_bool (by rw [HF.out, HV.out]), hbel⟩
  · have HF : Hid ((inB n 1 6 && L.all (actI J)) = false) := by unfold Hid; rw [inB_f (by omega)]; rfl

    by_cases hlow : (n : Int) < 1
    · go_enter Tryz.func64, Tryz.ntmps64
      go_wp2
      go_ret
      exact ⟨ret_bool HF.out.symm, Below.refl _ _⟩
    · have hn : (6 : Int) < (n : Int) := by omega
      go_enter Tryz.func64, Tryz.ntmps64
      go_wp2
      go_ret
      exact ⟨ret_bool HF.out.symm, Below.refl _ _⟩

end Go.Proofs.YtcfhpcbkdpgboaaGreatDoor
