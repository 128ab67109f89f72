/-
  Texts of this claim joined into one: ActOk, RuleP, ValP, L2Num, TabT, ValT, VOk, TxV, FactOk, FactT, ArgT, PatT, ArgTI, CondT, Box11, ExprT, ExprJ, Words, SumD.
-/
import Derived.Test.YtaflokfgbmlmaacGreatDoorJoined2
import Derived.Test.YtaflokfgbmlmaacGreatDoorJoined1
import Derived.Lib.ItoaLen
import Derived.Lib.AtoiTie
import Derived.Laws.IdiomStrings
import Derived.Lib.AppendIntMem
import Derived.Lib.SmallJoins
import Derived.Test.YtaflokfgbmlmaacGreatDoorShelf
import Derived.Lib.Join
import Derived.Deep.AppendLies
import Derived.Deep.RegionHeld3
import Derived.OwnWalk
import Derived.Lib.LaidTab
/-
  What both ActOks answer: actB.
-/
namespace Go.Proofs.YtaflokfgbmlmaacGreatDoor
open Go.RowKit
set_option linter.unusedVariables false

/-- an act with neither a name nor terms -/
def bareX (nm : ByteArray) (L : List X11) : Bool := decide (nm.size = 0) && decide (L.length = 0)
/-- when an act is right -/
def actB (K : Int) (nm : ByteArray) (L : List X11) (N : Int) (un : ByteArray) : Bool :=
  if K = 1 then namedX nm L && decide (N = 0) && decide (un.size = 0)
  else if K = 2 then bareX nm L && inB N 0 7 && decide (un.size = 0)
  else if K = 3 then namedX nm L && decide (N = 0) && (decide (un.size = 0) || nameB un)
  else if K = 4 then namedX nm L && inB N 0 100000 && decide (un.size = 0)
  else if K = 5 ∨ K = 6 then bareX nm L && decide (N = 0) && decide (un.size = 0)
  else false
theorem actB1 (nm : ByteArray) (L : List X11) (N : Int) (un : ByteArray) : actB 1 nm L N un = (namedX nm L && decide (N = 0) && decide (un.size = 0)) := rfl
theorem actB2 (nm : ByteArray) (L : List X11) (N : Int) (un : ByteArray) : actB 2 nm L N un = (bareX nm L && inB N 0 7 && decide (un.size = 0)) := rfl
theorem actB3 (nm : ByteArray) (L : List X11) (N : Int) (un : ByteArray) : actB 3 nm L N un = (namedX nm L && decide (N = 0) && (decide (un.size = 0) || nameB un)) := rfl
theorem actB4 (nm : ByteArray) (L : List X11) (N : Int) (un : ByteArray) : actB 4 nm L N un = (namedX nm L && inB N 0 100000 && decide (un.size = 0)) := rfl
theorem actB5 (nm : ByteArray) (L : List X11) (N : Int) (un : ByteArray) : actB 5 nm L N un = (bareX nm L && decide (N = 0) && decide (un.size = 0)) := rfl
theorem actB6 (nm : ByteArray) (L : List X11) (N : Int) (un : ByteArray) : actB 6 nm L N un = (bareX nm L && decide (N = 0) && decide (un.size = 0)) := rfl
theorem actB_no {K : Int} (nm : ByteArray) (L : List X11) (N : Int) (un : ByteArray) (h1 : K ≠ 1) (h2 : K ≠ 2) (h3 : K ≠ 3) (h4 : K ≠ 4) (h5 : K ≠ 5) (h6 : K ≠ 6) : actB K nm L N un = false := by
  simp [actB, h1, h2, h3, h4, h5, h6]
theorem k_cases (K : Int) : K = 1 ∨ K = 2 ∨ K = 3 ∨ K = 4 ∨ K = 5 ∨ K = 6 ∨ ((K == 1) = false ∧ (K == 2) = false ∧ (K == 3) = false ∧ (K == 4) = false ∧ (K == 5) = false ∧ (K == 6) = false ∧ K ≠ 1 ∧ K ≠ 2 ∧ K ≠ 3 ∧ K ≠ 4 ∧ K ≠ 5 ∧ K ≠ 6) := by
  by_cases h1 : K = 1; · simp [h1]
  by_cases h2 : K = 2; · simp [h2]
  by_cases h3 : K = 3; · simp [h3]
  by_cases h4 : K = 4; · simp [h4]
  by_cases h5 : K = 5; · simp [h5]
  by_cases h6 : K = 6; · simp [h6]
  simp [h1, h2, h3, h4, h5, h6]
theorem emp_t (s : ByteArray) : s.toList.isEmpty = decide (s.size = 0) := by
  by_cases h : s.size = 0
  · rw [decide_eq_true h, empty_of_size h, ByteArray.toList_eq]; rfl
  · rw [isEmpty_false h, decide_eq_false h]
theorem eq0_t (N : Int) : (N == 0) = decide (N = 0) := by
  by_cases h : N = 0 <;> simp [h]
theorem len0_t (n : Nat) : ((n : Int) == 0) = decide (n = 0) := by
  by_cases h : n = 0
  · simp [h]
  · rw [decide_eq_false h]; simpa using h
theorem len0_z (n : Nat) : decide ((n : Int) = 0) = decide (n = 0) := decide_eq_decide.2 (by omega)

theorem isUpTo_any (n m : Int) (w : World) : Calls Tryz.prog 103 #[.int .i64 n, .int .i64 m] w fun e w' => e = .returned (.bool (inB n 0 m)) ∧ w' = w := by
  by_cases h1 : 0 ≤ n
  · have HI : Hid (inB n 0 m = decide (n ≤ m)) := by unfold Hid inB; rw [decide_eq_true h1, Bool.true_and]
    go_enter Tryz.func103, Tryz.ntmps103
    go_wp2
    go_ret
    exact ⟨ret_bool HI.out.symm, rfl⟩
  · have HI : Hid (inB n 0 m = false) := inB_f (by omega)
    go_enter Tryz.func103, Tryz.ntmps103
    go_wp2
    go_ret
    exact ⟨ret_bool HI.out.symm, rfl⟩

set_option maxRecDepth 100000 in
set_option maxHeartbeats 3200000 in
theorem asksFor_any (K : Int) (nm : ByteArray) (a : Option Addr) (cap : Nat) (L : List X11) (N : Int) (un : ByteArray) (w : World) (hkd : nm.size ≤ maxLen) (hr : RdExpr w a L) (hs : ∀ x ∈ L, x.fits) (hm : L.length ≤ 1048580) :
    Calls Tryz.prog 101 #[.agg #[.int .i64 K, .string nm, .slice a L.length cap, .int .i64 N, .string un]] w fun e w' => e = .returned (.bool (namedX nm L)) ∧ Below w.heap.size w w' := by
  have b0 := below_al w (.cells #[.int .i64 K, .string nm, .slice a L.length cap, .int .i64 N, .string un] 61)
  go_enter Tryz.func101, Tryz.ntmps101
  go_wp2_with fail
  refine (namedX_any nm a cap L _ hkd (hr.below b0) hs hm).mono ?_
  rintro e w1 ⟨rfl, hb⟩
  have hB : Below w.heap.size w w1 := b0.trans (hb.mono b0.size)
  go_wp2
  go_ret
  exact ⟨rfl, hB⟩

set_option maxRecDepth 100000 in
set_option maxHeartbeats 3200000 in
theorem asksForNothing_any (K : Int) (nm : ByteArray) (a : Option Addr) (cap : Nat) (L : List X11) (N : Int) (un : ByteArray) (w : World) (hm : L.length ≤ 1048580) :
    Calls Tryz.prog 102 #[.agg #[.int .i64 K, .string nm, .slice a L.length cap, .int .i64 N, .string un]] w fun e w' => e = .returned (.bool (bareX nm L)) ∧ Below w.heap.size w w' := by
  have b0 := below_al w (.cells #[.int .i64 K, .string nm, .slice a L.length cap, .int .i64 N, .string un] 61)
  have HB : Hid (bareX nm L = (decide (nm.size = 0) && decide (L.length = 0))) := rfl
  have hn := emp_t nm
  have hl := len0_t L.length
  generalize decide (nm.size = 0) = x at HB hn
  generalize decide (L.length = 0) = y at HB hl
  cases x
  all_goals
    go_enter Tryz.func102, Tryz.ntmps102
    go_wp2
    go_ret
    exact ⟨by rw [HB.out]; rfl, b0⟩

set_option maxRecDepth 100000 in
set_option maxHeartbeats 3200000 in
theorem implActOk_1 (nm : ByteArray) (a : Option Addr) (cap : Nat) (L : List X11) (N : Int) (un : ByteArray) (w : World) (hkd : nm.size ≤ maxLen) (hr : RdExpr w a L) (hs : ∀ x ∈ L, x.fits) (hm : L.length ≤ 1048580) (hun : un.size ≤ maxLen) :
    Calls Tryz.prog 59 #[.agg #[.int .i64 1, .string nm, .slice a L.length cap, .int .i64 N, .string un]] w fun e w' => e = .returned (.bool (actB 1 nm L N un)) ∧ Below w.heap.size w w' := by
  have b0 := below_al w (.cells #[.int .i64 1, .string nm, .slice a L.length cap, .int .i64 N, .string un] 61)
  have hX := boxk_new w #[.int .i64 1, .string nm, .slice a L.length cap, .int .i64 N, .string un] 61
  have HC := hide (actB1 nm L N un)
  go_enter Tryz.func59, Tryz.ntmps59
  go_wp2_with fail
  refine (asksFor_any 1 nm a cap L N un _ hkd (hr.below b0) hs hm).mono ?_
  rintro e w1 ⟨rfl, hb⟩
  have HX1 := hide (box_step hX hb)
  have hB1 : Below w.heap.size w w1 := b0.trans (hb.mono b0.size)
  have y3 := boxk_cell HX1.out 3 _ rfl
  have y4 := boxk_cell HX1.out 4 _ rfl
  clear hb b0 hX HX1
  generalize namedX nm L = bb at HC ⊢
  have HU := hide hun
  clear hun hkd hs hr
  cases bb
  · go_wp2
    go_ret
    exact ⟨by rw [HC.out]; rfl, hB1⟩
  · by_cases hN : N = 0
    · subst hN
      by_cases hU : un.size = 0
      · obtain rfl := empty_of_size hU
        have H2 : Hid (actB 1 nm L 0 ⟨#[]⟩ = true) := HC.out
        clear hU
        go_wp2
        go_ret
        exact ⟨by rw [H2.out]; rfl, hB1⟩
      · have H2 : Hid (actB 1 nm L 0 un = false) := by unfold Hid; rw [HC.out, decide_eq_false hU]; rfl
        have hE := isEmpty_false hU
        clear hU
        go_wp2
        go_ret
        exact ⟨by rw [H2.out]; rfl, hB1⟩
    · have H2 : Hid (actB 1 nm L N un = false) := by unfold Hid; rw [HC.out, decide_eq_false hN]; rfl
      have k0 : (N == 0) = false := by simpa using hN
      clear hN
      go_wp2
      go_ret
      exact ⟨by rw [H2.out]; rfl, hB1⟩

set_option maxRecDepth 100000 in
set_option maxHeartbeats 3200000 in
theorem implActOk_2 (nm : ByteArray) (a : Option Addr) (cap : Nat) (L : List X11) (N : Int) (un : ByteArray) (w : World) (hkd : nm.size ≤ maxLen) (hr : RdExpr w a L) (hs : ∀ x ∈ L, x.fits) (hm : L.length ≤ 1048580) (hun : un.size ≤ maxLen) :
    Calls Tryz.prog 59 #[.agg #[.int .i64 2, .string nm, .slice a L.length cap, .int .i64 N, .string un]] w fun e w' => e = .returned (.bool (actB 2 nm L N un)) ∧ Below w.heap.size w w' := by
  have b0 := below_al w (.cells #[.int .i64 2, .string nm, .slice a L.length cap, .int .i64 N, .string un] 61)
  have hX := boxk_new w #[.int .i64 2, .string nm, .slice a L.length cap, .int .i64 N, .string un] 61
  have HC := hide (actB2 nm L N un)
  go_enter Tryz.func59, Tryz.ntmps59
  go_wp2_with fail
  refine (asksForNothing_any 2 nm a cap L N un _ hm).mono ?_
  rintro e w1 ⟨rfl, hb⟩
  have HX1 := hide (box_step hX hb)
  have hB1 : Below w.heap.size w w1 := b0.trans (hb.mono b0.size)
  have y3 := boxk_cell HX1.out 3 _ rfl
  have y4 := boxk_cell HX1.out 4 _ rfl
  clear hb b0 hX HX1
  generalize bareX nm L = bb at HC ⊢
  have HU := hide hun
  clear hun hkd hs hr
  cases bb
  · go_wp2
    go_ret
    exact ⟨by rw [HC.out]; rfl, hB1⟩
  · cases hI : inB N 0 7
    · have H2 : Hid (actB 2 nm L N un = false) := by unfold Hid; rw [HC.out, hI]; rfl
      go_wp2_with (go_at_call 103; refine (isUpTo_any _ _ _).mono ?_; rintro e w' ⟨rfl, rfl⟩; rw [hI])
      go_ret
      exact ⟨by rw [H2.out]; rfl, hB1⟩
    · rw [hI] at HC
      by_cases hU : un.size = 0
      · obtain rfl := empty_of_size hU
        have H2 : Hid (actB 2 nm L N ⟨#[]⟩ = true) := HC.out
        clear hU
        go_wp2_with (go_at_call 103; refine (isUpTo_any _ _ _).mono ?_; rintro e w' ⟨rfl, rfl⟩; rw [hI])
        go_ret
        exact ⟨by rw [H2.out]; rfl, hB1⟩
      · have H2 : Hid (actB 2 nm L N un = false) := by unfold Hid; rw [HC.out, decide_eq_false hU]; rfl
        have hE := isEmpty_false hU
        clear hU
        go_wp2_with (go_at_call 103; refine (isUpTo_any _ _ _).mono ?_; rintro e w' ⟨rfl, rfl⟩; rw [hI])
        go_ret
        exact ⟨by rw [H2.out]; rfl, hB1⟩

set_option maxRecDepth 100000 in
set_option maxHeartbeats 3200000 in
theorem implActOk_3 (nm : ByteArray) (a : Option Addr) (cap : Nat) (L : List X11) (N : Int) (un : ByteArray) (w : World) (hkd : nm.size ≤ maxLen) (hr : RdExpr w a L) (hs : ∀ x ∈ L, x.fits) (hm : L.length ≤ 1048580) (hun : un.size ≤ maxLen) :
    Calls Tryz.prog 59 #[.agg #[.int .i64 3, .string nm, .slice a L.length cap, .int .i64 N, .string un]] w fun e w' => e = .returned (.bool (actB 3 nm L N un)) ∧ Below w.heap.size w w' := by
  have b0 := below_al w (.cells #[.int .i64 3, .string nm, .slice a L.length cap, .int .i64 N, .string un] 61)
  have hX := boxk_new w #[.int .i64 3, .string nm, .slice a L.length cap, .int .i64 N, .string un] 61
  have HC := hide (actB3 nm L N un)
  go_enter Tryz.func59, Tryz.ntmps59
  go_wp2_with fail
  refine (asksFor_any 3 nm a cap L N un _ hkd (hr.below b0) hs hm).mono ?_
  rintro e w1 ⟨rfl, hb⟩
  have HX1 := hide (box_step hX hb)
  have hB1 : Below w.heap.size w w1 := b0.trans (hb.mono b0.size)
  have y3 := boxk_cell HX1.out 3 _ rfl
  have y4 := boxk_cell HX1.out 4 _ rfl
  clear hb b0 hX HX1
  generalize namedX nm L = bb at HC ⊢
  have HU := hide hun
  clear hun hkd hs hr
  cases bb
  · go_wp2
    go_ret
    exact ⟨by rw [HC.out]; rfl, hB1⟩
  · by_cases hN : N = 0
    · subst hN
      by_cases hU : un.size = 0
      · obtain rfl := empty_of_size hU
        have H2 : Hid (actB 3 nm L 0 ⟨#[]⟩ = true) := HC.out
        clear hU
        go_wp2
        go_ret
        exact ⟨by rw [H2.out]; rfl, hB1⟩
      · have H2 : Hid (actB 3 nm L 0 un = nameB un) := by unfold Hid; rw [HC.out, decide_eq_false hU]; rfl
        have hE := isEmpty_false hU
        clear hU
        go_wp2_with (go_at_call 46; refine (implNameOk_any _ _ HU.out).mono ?_; rintro e w' ⟨rfl, rfl⟩)
        go_ret
        exact ⟨by rw [H2.out]; rfl, hB1⟩
    · have H2 : Hid (actB 3 nm L N un = false) := by unfold Hid; rw [HC.out, decide_eq_false hN]; rfl
      have k0 : (N == 0) = false := by simpa using hN
      clear hN
      go_wp2
      go_ret
      exact ⟨by rw [H2.out]; rfl, hB1⟩

set_option maxRecDepth 100000 in
set_option maxHeartbeats 3200000 in
theorem implActOk_4 (nm : ByteArray) (a : Option Addr) (cap : Nat) (L : List X11) (N : Int) (un : ByteArray) (w : World) (hkd : nm.size ≤ maxLen) (hr : RdExpr w a L) (hs : ∀ x ∈ L, x.fits) (hm : L.length ≤ 1048580) (hun : un.size ≤ maxLen) :
    Calls Tryz.prog 59 #[.agg #[.int .i64 4, .string nm, .slice a L.length cap, .int .i64 N, .string un]] w fun e w' => e = .returned (.bool (actB 4 nm L N un)) ∧ Below w.heap.size w w' := by
  have b0 := below_al w (.cells #[.int .i64 4, .string nm, .slice a L.length cap, .int .i64 N, .string un] 61)
  have hX := boxk_new w #[.int .i64 4, .string nm, .slice a L.length cap, .int .i64 N, .string un] 61
  have HC := hide (actB4 nm L N un)
  go_enter Tryz.func59, Tryz.ntmps59
  go_wp2_with fail
  refine (asksFor_any 4 nm a cap L N un _ hkd (hr.below b0) hs hm).mono ?_
  rintro e w1 ⟨rfl, hb⟩
  have HX1 := hide (box_step hX hb)
  have hB1 : Below w.heap.size w w1 := b0.trans (hb.mono b0.size)
  have y3 := boxk_cell HX1.out 3 _ rfl
  have y4 := boxk_cell HX1.out 4 _ rfl
  clear hb b0 hX HX1
  generalize namedX nm L = bb at HC ⊢
  have HU := hide hun
  clear hun hkd hs hr
  cases bb
  · go_wp2
    go_ret
    exact ⟨by rw [HC.out]; rfl, hB1⟩
  · cases hI : inB N 0 100000
    · have H2 : Hid (actB 4 nm L N un = false) := by unfold Hid; rw [HC.out, hI]; rfl
      go_wp2_with (go_at_call 103; refine (isUpTo_any _ _ _).mono ?_; rintro e w' ⟨rfl, rfl⟩; rw [hI])
      go_ret
      exact ⟨by rw [H2.out]; rfl, hB1⟩
    · rw [hI] at HC
      by_cases hU : un.size = 0
      · obtain rfl := empty_of_size hU
        have H2 : Hid (actB 4 nm L N ⟨#[]⟩ = true) := HC.out
        clear hU
        go_wp2_with (go_at_call 103; refine (isUpTo_any _ _ _).mono ?_; rintro e w' ⟨rfl, rfl⟩; rw [hI])
        go_ret
        exact ⟨by rw [H2.out]; rfl, hB1⟩
      · have H2 : Hid (actB 4 nm L N un = false) := by unfold Hid; rw [HC.out, decide_eq_false hU]; rfl
        have hE := isEmpty_false hU
        clear hU
        go_wp2_with (go_at_call 103; refine (isUpTo_any _ _ _).mono ?_; rintro e w' ⟨rfl, rfl⟩; rw [hI])
        go_ret
        exact ⟨by rw [H2.out]; rfl, hB1⟩

set_option maxRecDepth 100000 in
set_option maxHeartbeats 3200000 in
theorem implActOk_5 (nm : ByteArray) (a : Option Addr) (cap : Nat) (L : List X11) (N : Int) (un : ByteArray) (w : World) (hkd : nm.size ≤ maxLen) (hr : RdExpr w a L) (hs : ∀ x ∈ L, x.fits) (hm : L.length ≤ 1048580) (hun : un.size ≤ maxLen) :
    Calls Tryz.prog 59 #[.agg #[.int .i64 5, .string nm, .slice a L.length cap, .int .i64 N, .string un]] w fun e w' => e = .returned (.bool (actB 5 nm L N un)) ∧ Below w.heap.size w w' := by
  have b0 := below_al w (.cells #[.int .i64 5, .string nm, .slice a L.length cap, .int .i64 N, .string un] 61)
  have hX := boxk_new w #[.int .i64 5, .string nm, .slice a L.length cap, .int .i64 N, .string un] 61
  have HC := hide (actB5 nm L N un)
  go_enter Tryz.func59, Tryz.ntmps59
  go_wp2_with fail
  refine (asksForNothing_any 5 nm a cap L N un _ hm).mono ?_
  rintro e w1 ⟨rfl, hb⟩
  have HX1 := hide (box_step hX hb)
  have hB1 : Below w.heap.size w w1 := b0.trans (hb.mono b0.size)
  have y3 := boxk_cell HX1.out 3 _ rfl
  have y4 := boxk_cell HX1.out 4 _ rfl
  clear hb b0 hX HX1
  generalize bareX nm L = bb at HC ⊢
  have HU := hide hun
  clear hun hkd hs hr
  cases bb
  · go_wp2
    go_ret
    exact ⟨by rw [HC.out]; rfl, hB1⟩
  · by_cases hN : N = 0
    · subst hN
      by_cases hU : un.size = 0
      · obtain rfl := empty_of_size hU
        have H2 : Hid (actB 5 nm L 0 ⟨#[]⟩ = true) := HC.out
        clear hU
        go_wp2
        go_ret
        exact ⟨by rw [H2.out]; rfl, hB1⟩
      · have H2 : Hid (actB 5 nm L 0 un = false) := by unfold Hid; rw [HC.out, decide_eq_false hU]; rfl
        have hE := isEmpty_false hU
        clear hU
        go_wp2
        go_ret
        exact ⟨by rw [H2.out]; rfl, hB1⟩
    · have H2 : Hid (actB 5 nm L N un = false) := by unfold Hid; rw [HC.out, decide_eq_false hN]; rfl
      have k0 : (N == 0) = false := by simpa using hN
      clear hN
      go_wp2
      go_ret
      exact ⟨by rw [H2.out]; rfl, hB1⟩

set_option maxRecDepth 100000 in
set_option maxHeartbeats 3200000 in
theorem implActOk_6 (nm : ByteArray) (a : Option Addr) (cap : Nat) (L : List X11) (N : Int) (un : ByteArray) (w : World) (hkd : nm.size ≤ maxLen) (hr : RdExpr w a L) (hs : ∀ x ∈ L, x.fits) (hm : L.length ≤ 1048580) (hun : un.size ≤ maxLen) :
    Calls Tryz.prog 59 #[.agg #[.int .i64 6, .string nm, .slice a L.length cap, .int .i64 N, .string un]] w fun e w' => e = .returned (.bool (actB 6 nm L N un)) ∧ Below w.heap.size w w' := by
  have b0 := below_al w (.cells #[.int .i64 6, .string nm, .slice a L.length cap, .int .i64 N, .string un] 61)
  have hX := boxk_new w #[.int .i64 6, .string nm, .slice a L.length cap, .int .i64 N, .string un] 61
  have HC := hide (actB6 nm L N un)
  go_enter Tryz.func59, Tryz.ntmps59
  go_wp2_with fail
  refine (asksForNothing_any 6 nm a cap L N un _ hm).mono ?_
  rintro e w1 ⟨rfl, hb⟩
  have HX1 := hide (box_step hX hb)
  have hB1 : Below w.heap.size w w1 := b0.trans (hb.mono b0.size)
  have y3 := boxk_cell HX1.out 3 _ rfl
  have y4 := boxk_cell HX1.out 4 _ rfl
  clear hb b0 hX HX1
  generalize bareX nm L = bb at HC ⊢
  have HU := hide hun
  clear hun hkd hs hr
  cases bb
  · go_wp2
    go_ret
    exact ⟨by rw [HC.out]; rfl, hB1⟩
  · by_cases hN : N = 0
    · subst hN
      by_cases hU : un.size = 0
      · obtain rfl := empty_of_size hU
        have H2 : Hid (actB 6 nm L 0 ⟨#[]⟩ = true) := HC.out
        clear hU
        go_wp2
        go_ret
        exact ⟨by rw [H2.out]; rfl, hB1⟩
      · have H2 : Hid (actB 6 nm L 0 un = false) := by unfold Hid; rw [HC.out, decide_eq_false hU]; rfl
        have hE := isEmpty_false hU
        clear hU
        go_wp2
        go_ret
        exact ⟨by rw [H2.out]; rfl, hB1⟩
    · have H2 : Hid (actB 6 nm L N un = false) := by unfold Hid; rw [HC.out, decide_eq_false hN]; rfl
      have k0 : (N == 0) = false := by simpa using hN
      clear hN
      go_wp2
      go_ret
      exact ⟨by rw [H2.out]; rfl, hB1⟩

set_option maxRecDepth 100000 in
set_option maxHeartbeats 3200000 in
theorem implActOk_any (K : Int) (nm : ByteArray) (a : Option Addr) (cap : Nat) (L : List X11) (N : Int) (un : ByteArray) (w : World) (hkd : nm.size ≤ maxLen) (hr : RdExpr w a L) (hs : ∀ x ∈ L, x.fits) (hm : L.length ≤ 1048580) (hun : un.size ≤ maxLen) :
    Calls Tryz.prog 59 #[.agg #[.int .i64 K, .string nm, .slice a L.length cap, .int .i64 N, .string un]] w fun e w' => e = .returned (.bool (actB K nm L N un)) ∧ Below w.heap.size w w' := by
  rcases k_cases K with rfl | rfl | rfl | rfl | rfl | rfl | ⟨k1, k2, k3, k4, k5, k6, h1, h2, h3, h4, h5, h6⟩
  · exact implActOk_1 nm a cap L N un w hkd hr hs hm hun
  · exact implActOk_2 nm a cap L N un w hkd hr hs hm hun
  · exact implActOk_3 nm a cap L N un w hkd hr hs hm hun
  · exact implActOk_4 nm a cap L N un w hkd hr hs hm hun
  · exact implActOk_5 nm a cap L N un w hkd hr hs hm hun
  · exact implActOk_6 nm a cap L N un w hkd hr hs hm hun
  · have b0 := below_al w (.cells #[.int .i64 K, .string nm, .slice a L.length cap, .int .i64 N, .string un] 61)
    have HC := hide (actB_no nm L N un h1 h2 h3 h4 h5 h6)
    clear h1 h2 h3 h4 h5 h6
    go_enter Tryz.func59, Tryz.ntmps59
    go_wp2
    go_ret
    exact ⟨by rw [HC.out]; rfl, b0⟩

end Go.Proofs.YtaflokfgbmlmaacGreatDoor
/-
  When a rule is right, plainly: ruleB as the model has it, ruleI as the tested program looks at it; they are the same.
-/
namespace Go.Proofs.YtaflokfgbmlmaacGreatDoor
open Go.RowKit
set_option linter.unusedVariables false

/-- an argument that is no variable, or one of these -/
def knownB (a : A5) (vs : List ByteArray) : Bool := !decide (a.K = 1) || hasS vs a.S
def PE.okB (p : PE) : Bool := patB p.kd p.L
def C11.okB (c : C11) : Bool := condB c.Op c.L c.R
def QE.okB (a : QE) : Bool := actB a.K a.nm a.L a.N a.un
/-- the model's look at the i-th pattern -/
def stepP (P : List PE) (i : Nat) : Bool := !(decide (2 < i) && !(eAt P i).nt) && ((eAt P i).okB && !(decide (i = 0) && (eAt P i).nt) && !((decide (0 < i) && (eAt P (i - 1)).nt) && !(eAt P i).nt))
def patsB (P : List PE) : Bool := (List.range P.length).all (stepP P) && inB P.length 1 6
def condK (vs : List ByteArray) (c : C11) : Bool := c.okB && knownB c.L vs && knownB c.R vs
def termK (vs : List ByteArray) (e : X11) : Bool := knownB e.L vs && knownB e.R vs
def actK (vs : List ByteArray) (pos : Nat) (a : QE) : Bool := a.okB && !(decide (a.K = 2) && decide ((pos : Int) ≤ a.N)) && a.L.all (termK vs)
def ruleB (x : RE) : Bool :=
  nameB x.nm && inB x.sal (-100) 100 && patsB x.P && (x.C.all (condK (varsB [] (posB x.P))) && decide (x.C.length ≤ 6)) && (x.A.all (actK (varsB [] (posB x.P)) (posB x.P).length) && inB x.A.length 1 6)

/-- the tested program's look: is this argument among those of a pattern that is not Not? -/
def sameA (a b : A5) : Bool := decide (a.K = b.K) && decide (a.S = b.S) && decide (a.V = b.V)
def bindsI (J : List PE) (a : A5) : Bool := !decide (a.K = 1) || J.any (fun p => p.L.any (fun b => sameA a b))
def patsI (P : List PE) : Bool := (inB P.length 1 6 && P.all PE.okB) && (inB (posB P).length 1 3 && (P.take (posB P).length).all (fun p => !p.nt))
def condI (J : List PE) (c : C11) : Bool := c.okB && bindsI J c.L && bindsI J c.R
def termI (J : List PE) (e : X11) : Bool := bindsI J e.L && bindsI J e.R
def actI (J : List PE) (a : QE) : Bool := a.okB && (!decide (a.K = 2) || decide (a.N < (J.length : Int))) && (decide (a.L.length ≤ 5) && a.L.all (termI J))
def ruleI (x : RE) : Bool :=
  nameB x.nm && inB x.sal (-100) 100 && patsI x.P && (decide (x.C.length ≤ 6) && x.C.all (condI (posB x.P))) && (inB x.A.length 1 6 && x.A.all (actI (posB x.P)))

/-- the first c are not Not, all others are -/
def SplitAt (P : List PE) (c : Nat) : Prop := c ≤ P.length ∧ (∀ i, i < c → (eAt P i).nt = false) ∧ ∀ i, c ≤ i → i < P.length → (eAt P i).nt = true
theorem split_pos {P : List PE} {c : Nat} (h : SplitAt P c) : posB P = P.take c := by
  obtain ⟨hc, h1, h2⟩ := h
  have e : P = P.take c ++ P.drop c := (List.take_append_drop c P).symm
  have a1 : posB (P.take c) = P.take c := by
    unfold posB
    rw [List.filter_eq_self]
    intro p hp
    obtain ⟨i, hi, rfl⟩ := List.getElem_of_mem hp
    rw [List.length_take] at hi
    have := h1 i (by omega)
    rw [eAt_in (by omega)] at this
    rw [List.getElem_take, this]; rfl
  have a2 : posB (P.drop c) = [] := by
    unfold posB
    rw [List.filter_eq_nil_iff]
    intro p hp
    obtain ⟨i, hi, rfl⟩ := List.getElem_of_mem hp
    rw [List.length_drop] at hi
    have := h2 (c + i) (by omega) (by omega)
    rw [eAt_in (by omega)] at this
    rw [List.getElem_drop, this]; simp
  have a3 : posB P = posB (P.take c) ++ posB (P.drop c) := by
    unfold posB
    rw [← List.filter_append, List.take_append_drop]
  rw [a3, a1, a2, List.append_nil]
theorem split_of {P : List PE} (h : (P.take (posB P).length).all (fun p => !p.nt) = true) : SplitAt P (posB P).length := by
  have hl := posB_len P
  rw [List.all_eq_true] at h
  have h1 : ∀ i, i < (posB P).length → (eAt P i).nt = false := fun i hi => by
    have hlt : i < (P.take (posB P).length).length := by rw [List.length_take]; omega
    have := h (P.take (posB P).length)[i] (List.getElem_mem hlt)
    rw [List.getElem_take, ← eAt_in] at this
    simpa using this
  refine ⟨hl, h1, fun i hi hi2 => ?_⟩
  obtain ⟨c, hc⟩ : ∃ c, c = (posB P).length := ⟨_, rfl⟩
  rw [← hc] at h1 hi hl
  have a1 : posB (P.take c) = P.take c := by
    unfold posB
    rw [List.filter_eq_self]
    intro p hp
    obtain ⟨j, hj, rfl⟩ := List.getElem_of_mem hp
    rw [List.length_take] at hj
    have := h1 j (by omega)
    rw [eAt_in (by omega)] at this
    rw [List.getElem_take, this]; rfl
  have a3 : posB P = posB (P.take c) ++ posB (P.drop c) := by
    unfold posB
    rw [← List.filter_append, List.take_append_drop]
  have a4 : (posB (P.drop c)).length = 0 := by
    have := congrArg List.length a3
    rw [a1, List.length_append, List.length_take, ← hc] at this
    omega
  have a5 := List.eq_nil_of_length_eq_zero a4
  unfold posB at a5
  rw [List.filter_eq_nil_iff] at a5
  have hlt : i - c < (P.drop c).length := by rw [List.length_drop]; omega
  have := a5 (P.drop c)[i - c] (List.getElem_mem hlt)
  rw [List.getElem_drop] at this
  rw [eAt_in hi2]
  have e : c + (i - c) = i := by omega
  simpa [e] using this
theorem stepP_t {P : List PE} {i : Nat} (h : stepP P i = true) : (2 < i → (eAt P i).nt = true) ∧ (eAt P i).okB = true ∧ (i = 0 → (eAt P i).nt = false) ∧ (0 < i → (eAt P (i - 1)).nt = true → (eAt P i).nt = true) := by
  unfold stepP at h
  simp only [Bool.and_eq_true, Bool.not_eq_true', Bool.and_eq_false_iff, decide_eq_false_iff_not, Bool.not_eq_false'] at h
  obtain ⟨h1, ⟨h2, h3⟩, h4⟩ := h
  refine ⟨fun hi => ?_, h2, fun hi => ?_, fun hi hn => ?_⟩
  · rcases h1 with h1 | h1
    · exact absurd hi h1
    · exact h1
  · rcases h3 with h3 | h3
    · exact absurd hi h3
    · exact h3
  · rcases h4 with h4 | h4
    · rcases h4 with h4 | h4
      · exact absurd hi h4
      · rw [hn] at h4; cases h4
    · exact h4
theorem stepP_of {P : List PE} {i : Nat} (h1 : 2 < i → (eAt P i).nt = true) (h2 : (eAt P i).okB = true) (h3 : i = 0 → (eAt P i).nt = false) (h4 : 0 < i → (eAt P (i - 1)).nt = true → (eAt P i).nt = true) : stepP P i = true := by
  unfold stepP
  simp only [Bool.and_eq_true, Bool.not_eq_true', Bool.and_eq_false_iff, decide_eq_false_iff_not, Bool.not_eq_false']
  refine ⟨?_, ⟨h2, ?_⟩, ?_⟩
  · by_cases h : 2 < i
    · exact .inr (h1 h)
    · exact .inl h
  · by_cases h : i = 0
    · exact .inr (h3 h)
    · exact .inl h
  · by_cases h : 0 < i
    · cases hn : (eAt P (i - 1)).nt
      · exact .inl (.inr rfl)
      · exact .inr (h4 h hn)
    · exact .inl (.inl h)
theorem split_steps {P : List PE} (h : ∀ i, i < P.length → stepP P i = true) : ∃ c, SplitAt P c := by
  have key : ∀ k, k ≤ P.length → ∃ c, c ≤ k ∧ (∀ i, i < c → (eAt P i).nt = false) ∧ ∀ i, c ≤ i → i < k → (eAt P i).nt = true := by
    intro k
    induction k with
    | zero => exact fun _ => ⟨0, Nat.le_refl _, fun i hi => absurd hi (Nat.not_lt_zero _), fun i _ hi => absurd hi (Nat.not_lt_zero _)⟩
    | succ k ih =>
      intro hk
      obtain ⟨c, h1, h2, h3⟩ := ih (by omega)
      cases hn : (eAt P k).nt
      · by_cases hck : c = k
        · subst hck
          exact ⟨c + 1, Nat.le_refl _, fun i hi => by
            by_cases e : i = c
            · rw [e]; exact hn
            · exact h2 i (by omega), fun i hi hi2 => by omega⟩
        · have h5 := h3 (k - 1) (by omega) (by omega)
          have h6 := (stepP_t (h k (by omega))).2.2.2 (by omega) h5
          rw [hn] at h6; cases h6
      · exact ⟨c, by omega, h2, fun i hi hi2 => by
          by_cases e : i = k
          · rw [e]; exact hn
          · exact h3 i hi (by omega)⟩
  obtain ⟨c, h1, h2, h3⟩ := key P.length (Nat.le_refl _)
  exact ⟨c, h1, h2, h3⟩
theorem all_eAt {α : Type} [Inhabited α] {L : List α} {p : α → Bool} : L.all p = true ↔ ∀ i, i < L.length → p (eAt L i) = true := by
  rw [List.all_eq_true]
  exact ⟨fun h i hi => h _ (eAt_mem hi), fun h x hx => by obtain ⟨i, hi, rfl⟩ := mem_eAt hx; exact h i hi⟩
theorem inB_iff {x a b : Int} : inB x a b = true ↔ a ≤ x ∧ x ≤ b := by unfold inB; simp
theorem patsB_I (P : List PE) : patsB P = patsI P := by
  rw [Bool.eq_iff_iff]
  unfold patsB patsI
  simp only [Bool.and_eq_true, inB_iff, List.all_eq_true, List.mem_range]
  constructor
  · rintro ⟨h, hl⟩
    obtain ⟨c, hs⟩ := split_steps h
    have hp := split_pos hs
    obtain ⟨hc, s1, s2⟩ := hs
    have hcl : (posB P).length = c := by rw [hp, List.length_take]; omega
    have h0 : 0 < c := by
      rcases Nat.eq_zero_or_pos c with e | e
      · have a := s2 0 (by omega) (by omega)
        have b := (stepP_t (h 0 (by omega))).2.2.1 rfl
        rw [a] at b; cases b
      · exact e
    have h3 : c ≤ 3 := by
      rcases Nat.lt_or_ge 3 c with e | e
      · have a := s1 3 e
        have b := (stepP_t (h 3 (by omega))).1 (by omega)
        rw [a] at b; cases b
      · exact e
    refine ⟨⟨hl, fun p hp => ?_⟩, by rw [hcl]; omega, fun p hpp => ?_⟩
    · obtain ⟨i, hi, rfl⟩ := mem_eAt hp
      exact (stepP_t (h i hi)).2.1
    · rw [hcl] at hpp
      obtain ⟨i, hi, rfl⟩ := List.getElem_of_mem hpp
      rw [List.length_take] at hi
      have := s1 i (by omega)
      rw [eAt_in (by omega)] at this
      rw [List.getElem_take, this]; rfl
  · rintro ⟨⟨hl, hok⟩, hc, hall⟩
    obtain ⟨h1, s1, s2⟩ := split_of (P := P) (List.all_eq_true.2 hall)
    refine ⟨fun i hi => stepP_of (fun h => s2 i (by omega) hi) (hok _ (eAt_mem hi)) (fun h => s1 i (by omega)) (fun h hn => ?_), hl⟩
    by_cases e : i < (posB P).length
    · rw [s1 (i - 1) (by omega)] at hn; cases hn
    · exact s2 i (by omega) hi

theorem names_mem {L : List A5} {s : ByteArray} : s ∈ namesOf L ↔ ∃ b ∈ L, b.K = 1 ∧ b.S = s := by
  unfold namesOf
  rw [List.mem_map]
  constructor
  · rintro ⟨b, hb, e⟩
    rw [List.mem_filter] at hb
    exact ⟨b, hb.1, by simpa using hb.2, e⟩
  · rintro ⟨b, hb, h1, e⟩
    exact ⟨b, List.mem_filter.2 ⟨hb, by simpa using h1⟩, e⟩
theorem addS_mem_iff {l : List ByteArray} {x y : ByteArray} : x ∈ addS l y ↔ x ∈ l ∨ x = y := by
  unfold addS
  by_cases h : hasS l y = true
  · rw [if_pos h]
    exact ⟨.inl, fun h2 => h2.elim id (fun e => by rw [e]; exact hasS_mem.1 h)⟩
  · rw [if_neg h]; simp
theorem adds_mem_iff {x : ByteArray} : ∀ (s l : List ByteArray), x ∈ adds l s ↔ x ∈ l ∨ x ∈ s
  | [], l => by simp [adds]
  | y :: r, l => by
    have e : adds l (y :: r) = adds (addS l y) r := rfl
    rw [e, adds_mem_iff r, addS_mem_iff, List.mem_cons, or_assoc]
theorem varsB_mem {s : ByteArray} : ∀ (J : List PE) (l : List ByteArray), s ∈ varsB l J ↔ s ∈ l ∨ ∃ p ∈ J, ∃ b ∈ p.L, b.K = 1 ∧ b.S = s
  | [], l => by simp [varsB]
  | p :: r, l => by
    have e : varsB l (p :: r) = varsB (varsF l p.L) r := rfl
    rw [e, varsB_mem r, varsF_names, adds_mem_iff, names_mem, or_assoc]
    simp only [List.mem_cons, exists_eq_or_imp]
/-- a variable that is right has no more than its kind and its name -/
theorem ok_var {a : A5} (h : a.ok = true) (h1 : a.K = 1) : a.V = zV := by
  obtain ⟨K, S, V⟩ := a
  simp only at h1
  subst h1
  have e : A5.ok ⟨1, S, V⟩ = (varB S && decide (V = zV)) := rfl
  rw [e, Bool.and_eq_true] at h
  simpa using h.2
theorem sameA_t {a b : A5} (h : sameA a b = true) : a = b := by
  unfold sameA at h
  simp only [Bool.and_eq_true, decide_eq_true_eq] at h
  obtain ⟨⟨h1, h2⟩, h3⟩ := h
  cases a; cases b
  simp only at h1 h2 h3
  rw [h1, h2, h3]
theorem sameA_refl (a : A5) : sameA a a = true := by simp [sameA]
theorem known_I {J : List PE} {a : A5} (hJ : ∀ p ∈ J, ∀ b ∈ p.L, b.ok = true) (ha : a.K = 1 → a.V = zV) : bindsI J a = knownB a (varsB [] J) := by
  unfold bindsI knownB
  by_cases h1 : a.K = 1
  · rw [decide_eq_true h1]
    simp only [Bool.not_true, Bool.false_or]
    rw [Bool.eq_iff_iff, hasS_mem, varsB_mem]
    simp only [List.any_eq_true, List.not_mem_nil, false_or]
    constructor
    · rintro ⟨p, hp, b, hb, h⟩
      have := sameA_t h
      subst this
      exact ⟨p, hp, a, hb, h1, rfl⟩
    · rintro ⟨p, hp, b, hb, e1, e2⟩
      refine ⟨p, hp, b, hb, ?_⟩
      have hv := ok_var (hJ p hp b hb) e1
      unfold sameA
      rw [h1, e1, e2, hv, ha h1]
      simp
  · rw [decide_eq_false h1]; rfl
theorem may_var {K : Int} {S : ByteArray} {V : V3} (h : mayB K S V = true) (h1 : K = 1) : V = zV := by
  unfold mayB at h
  rw [Bool.and_eq_true] at h
  exact ok_var (a := ⟨K, S, V⟩) h.1 h1
theorem cond_var {c : C11} (h : c.okB = true) : (c.L.K = 1 → c.L.V = zV) ∧ (c.R.K = 1 → c.R.V = zV) := by
  unfold C11.okB condB at h
  simp only [Bool.and_eq_true] at h
  exact ⟨may_var h.2.1, may_var h.2.2⟩
theorem condK_I {J : List PE} (hJ : ∀ p ∈ J, ∀ b ∈ p.L, b.ok = true) (c : C11) : condI J c = condK (varsB [] J) c := by
  unfold condI condK
  cases h : c.okB
  · rfl
  · rw [known_I hJ (cond_var h).1, known_I hJ (cond_var h).2]
theorem expr_var {e : X11} (h : e.ok = true) : (e.L.K = 1 → e.L.V = zV) ∧ (e.R.K = 1 → e.R.V = zV) := by
  obtain ⟨Op, L, R⟩ := e
  have h : exprB Op L R = true := h
  show (L.K = 1 → L.V = zV) ∧ (R.K = 1 → R.V = zV)
  unfold exprB at h
  by_cases h0 : Op.size = 0
  · rw [if_pos h0, Bool.and_eq_true] at h
    refine ⟨may_var h.1, fun hk => ?_⟩
    have h2 := h.2
    unfold noArg at h2
    simp only [Bool.and_eq_true, decide_eq_true_eq] at h2
    exact h2.2
  · rw [if_neg h0] at h
    split at h
    · rw [Bool.and_eq_true] at h
      exact ⟨may_var h.1, may_var h.2⟩
    · cases h
theorem termK_I {J : List PE} (hJ : ∀ p ∈ J, ∀ b ∈ p.L, b.ok = true) {e : X11} (h : e.ok = true) : termI J e = termK (varsB [] J) e := by
  unfold termI termK
  rw [known_I hJ (expr_var h).1, known_I hJ (expr_var h).2]
theorem bareX_t {nm : ByteArray} {L : List X11} (h : bareX nm L = true) : L = [] := by
  unfold bareX at h
  simp only [Bool.and_eq_true, decide_eq_true_eq] at h
  exact List.eq_nil_of_length_eq_zero h.2
theorem namedX_t {nm : ByteArray} {L : List X11} (h : namedX nm L = true) : L.length ≤ 5 ∧ ∀ e ∈ L, e.ok = true := by
  unfold namedX at h
  simp only [Bool.and_eq_true, decide_eq_true_eq, List.all_eq_true] at h
  exact ⟨h.1.2, h.2⟩
theorem bare_terms {nm : ByteArray} {L : List X11} (h : bareX nm L = true) : L.length ≤ 5 ∧ ∀ e ∈ L, e.ok = true := by
  rw [bareX_t h]
  exact ⟨by simp, fun e he => by cases he⟩
theorem act_terms {K : Int} {nm : ByteArray} {L : List X11} {N : Int} {un : ByteArray} (h : actB K nm L N un = true) : L.length ≤ 5 ∧ ∀ e ∈ L, e.ok = true := by
  unfold actB at h
  split at h
  · simp only [Bool.and_eq_true] at h; exact namedX_t h.1.1
  split at h
  · simp only [Bool.and_eq_true] at h; exact bare_terms h.1.1
  split at h
  · simp only [Bool.and_eq_true] at h; exact namedX_t h.1.1
  split at h
  · simp only [Bool.and_eq_true] at h; exact namedX_t h.1.1
  split at h
  · simp only [Bool.and_eq_true] at h; exact bare_terms h.1.1
  · cases h
theorem all_cong {α : Type} {p q : α → Bool} {L : List α} (h : ∀ x ∈ L, p x = q x) : L.all p = L.all q := by
  rw [Bool.eq_iff_iff, List.all_eq_true, List.all_eq_true]
  exact ⟨fun k x hx => by rw [← h x hx]; exact k x hx, fun k x hx => by rw [h x hx]; exact k x hx⟩
theorem drop_same (K N : Int) (n : Nat) : (!decide (K = 2) || decide (N < (n : Int))) = !(decide (K = 2) && decide ((n : Int) ≤ N)) := by
  by_cases h : K = 2
  · by_cases h2 : N < (n : Int)
    · rw [decide_eq_true h, decide_eq_true h2, decide_eq_false (by omega)]; rfl
    · rw [decide_eq_true h, decide_eq_false h2, decide_eq_true (by omega)]; rfl
  · rw [decide_eq_false h]; rfl
theorem actK_I {J : List PE} (hJ : ∀ p ∈ J, ∀ b ∈ p.L, b.ok = true) (a : QE) : actI J a = actK (varsB [] J) J.length a := by
  unfold actI actK
  cases h : a.okB
  · rfl
  · obtain ⟨h1, h2⟩ := act_terms (show actB a.K a.nm a.L a.N a.un = true from h)
    rw [drop_same, decide_eq_true h1, all_cong (fun e he => termK_I hJ (h2 e he))]
    simp
theorem ruleB_I (x : RE) : ruleB x = ruleI x := by
  unfold ruleB ruleI
  rw [← patsB_I]
  cases h : patsB x.P
  · simp
  · have hok : ∀ p ∈ posB x.P, ∀ b ∈ p.L, b.ok = true := fun p hp b hb => by
      rw [patsB_I] at h
      unfold patsI at h
      simp only [Bool.and_eq_true, List.all_eq_true] at h
      have h2 : patB p.kd p.L = true := h.1.2 p (List.mem_filter.1 hp).1
      unfold patB at h2
      simp only [Bool.and_eq_true, List.all_eq_true] at h2
      exact h2.2 b hb
    rw [all_cong (fun c _ => condK_I hok c), all_cong (fun a _ => actK_I hok a), Bool.and_comm (x.C.all _), Bool.and_comm (x.A.all _)]
/-- the same by what is plain -/
theorem stepP_pl {K J : List PE} (h : K.map PE.pl = J.map PE.pl) {i : Nat} (hi : i < K.length) : stepP K i = stepP J i := by
  have e1 := PE.pl_inj (map_at h hi)
  have e2 := PE.pl_inj (map_at h (i := i - 1) (by omega))
  unfold stepP PE.okB
  rw [e1.1, e1.2.1, e1.2.2, e2.2.2]
theorem patsB_pl {K J : List PE} (h : K.map PE.pl = J.map PE.pl) : patsB K = patsB J := by
  unfold patsB
  rw [← map_len h]
  rw [all_cong (fun i hi => stepP_pl h (List.mem_range.1 hi))]
theorem acts_pl {K J : List QE} (h : K.map QE.pl = J.map QE.pl) (vs : List ByteArray) (n : Nat) : K.all (actK vs n) = J.all (actK vs n) := by
  have e : ∀ L : List QE, L.all (actK vs n) = (L.map QE.pl).all (fun a => actB a.K a.nm a.L a.N a.un && !(decide (a.K = 2) && decide ((n : Int) ≤ a.N)) && a.L.all (termK vs)) := fun L => by
    rw [List.all_map]; rfl
  rw [e, e, h]
theorem ruleB_pl {x y : RE} (h : y.pl = x.pl) : ruleB y = ruleB x := by
  obtain ⟨e1, e2, e3, e4, e5⟩ := RE.pl_inj h
  unfold ruleB
  rw [e1, e2, patsB_pl e3, e4, varsB_pl (posB_pl e3), map_len (posB_pl e3), acts_pl e5, map_len e5]
end Go.Proofs.YtaflokfgbmlmaacGreatDoor
/-
  Numbers as texts, plainly: what is written comes back, and nothing else is read.
-/
namespace Go.Proofs.YtaflokfgbmlmaacGreatDoor
open Go.Lib
set_option linter.unusedVariables false

theorem decFrom_snoc (c : UInt8) : ∀ (l : List UInt8) (acc : Nat), decFrom acc (l ++ [c]) = match decFrom acc l with
    | some m => (match digitVal c with | some d => some (m * 10 + d) | none => none)
    | none => none
  | [], acc => by
    simp only [List.nil_append, decFrom]
    cases digitVal c <;> rfl
  | b :: r, acc => by
    simp only [List.cons_append, decFrom]
    cases digitVal b with
    | none => rfl
    | some d => exact decFrom_snoc c r _

theorem digitVal_dec (d : Nat) (h : d < 10) : digitVal (UInt8.ofNat (48 + d)) = some d := by
  have e : (UInt8.ofNat (48 + d)).toNat = 48 + d := by simp; omega
  unfold digitVal
  rw [e, if_pos (by omega)]
  simp

theorem decFrom_dec (u : Nat) : decFrom 0 (decDigits u) = some u := by
  induction u using Nat.strongRecOn with
  | _ u ih =>
    by_cases h : u < 10
    · rw [decDigits_one h]
      simp only [decFrom, digitVal_dec u h]; simp
    · rw [decDigits, dif_neg h, decFrom_snoc, ih (u / 10) (by omega), digitVal_dec _ (by omega)]
      simp; omega

theorem decDigits_ne (u : Nat) : decDigits u ≠ [] := by
  intro h
  have := decDigits_length u
  rw [h] at this
  have := nDigits_pos u
  simp at *; omega

theorem dec_head (u : Nat) : ∃ d r, decDigits u = UInt8.ofNat (48 + d) :: r ∧ d < 10 ∧ (0 < u → 0 < d) ∧ (u < 10 → r = []) := by
  induction u using Nat.strongRecOn with
  | _ u ih =>
    by_cases h : u < 10
    · exact ⟨u, [], decDigits_one h, h, fun h => h, fun _ => rfl⟩
    · obtain ⟨d, r, e, hd, hp, _⟩ := ih (u / 10) (by omega)
      refine ⟨d, r ++ [UInt8.ofNat (48 + u % 10)], ?_, hd, fun _ => hp (by omega), fun h2 => absurd h2 h⟩
      rw [decDigits, dif_neg h, e]; rfl

theorem ofNat_inj48 {d : Nat} (h : d < 10) (k : Nat) (hk : k < 256) : UInt8.ofNat (48 + d) = UInt8.ofNat k ↔ 48 + d = k := by
  constructor
  · intro e
    have := congrArg UInt8.toNat e
    simp at this; omega
  · intro e; rw [e]

theorem nDigits_10 (u : Nat) (h : u ≤ 1000000000) : nDigits u ≤ 10 := by
  rcases Nat.lt_or_ge (nDigits u) 11 with h1 | h1
  · omega
  · exfalso
    -- ten digits at most
    have : ∀ u, u < 10 ^ 10 → nDigits u ≤ 10 := by
      intro u hu
      have step : ∀ (k u : Nat), u < 10 ^ (k + 1) → nDigits u ≤ k + 1 := by
        intro k
        induction k with
        | zero => intro u hu; rw [nDigits_small (by simpa using hu)]; omega
        | succ k ih =>
          intro u hu
          by_cases hs : u < 10
          · rw [nDigits_small hs]; omega
          · rw [nDigits_big hs]
            have := ih (u / 10) (by rw [Nat.pow_succ] at hu; exact Nat.div_lt_of_lt_mul (by omega))
            omega
      exact step 9 u hu
    have := this u (by omega)
    omega

/-- the number of a text of at most ten digits, with no needless nought; -1: it is none -/
def wholeL (l : List UInt8) : Int :=
  if l.length < 1 ∨ 10 < l.length ∨ (1 < l.length ∧ l.head? = some 48) then -1
  else match decFrom 0 l with
    | some n => (n : Int)
    | none => -1

theorem whole_dec (u : Nat) (h : u ≤ 1000000000) : wholeL (decDigits u) = (u : Int) := by
  have hl := decDigits_length u
  have h1 := nDigits_pos u
  have h2 := nDigits_10 u h
  unfold wholeL
  rw [if_neg, decFrom_dec]
  rintro (h3 | h3 | ⟨h3, h4⟩)
  · omega
  · omega
  · obtain ⟨d, r, e, hd, hp, hr⟩ := dec_head u
    rw [e] at h4 h3
    simp only [List.head?_cons, Option.some.injEq] at h4
    have := (ofNat_inj48 hd 48 (by omega)).1 h4
    by_cases h0 : 0 < u
    · have := hp h0; omega
    · have := hr (by omega); rw [this] at h3; simp at h3

theorem digitVal_some {c : UInt8} {d : Nat} (h : digitVal c = some d) : c = UInt8.ofNat (48 + d) ∧ d < 10 := by
  obtain ⟨h1, h2, h3⟩ := digitVal_eq h
  refine ⟨?_, by omega⟩
  apply UInt8.toNat_inj.1
  rw [h3]
  simp; omega

/-- digits without a needless nought are their number's -/
theorem dec_of : ∀ (n : Nat) (l : List UInt8) (u : Nat), l.length = n + 1 → (1 < l.length → l.head? ≠ some 48) → decFrom 0 l = some u → l = decDigits u ∧ (l.head? ≠ some 48 → 0 < u)
  | 0, l, u, hl, hh, hd => by
    match l, hl with
    | [c], _ =>
      simp only [decFrom] at hd
      cases hc : digitVal c with
      | none => rw [hc] at hd; cases hd
      | some d =>
        rw [hc] at hd
        simp at hd
        obtain ⟨e, h10⟩ := digitVal_some hc
        subst hd
        refine ⟨by rw [decDigits_one h10, e], fun h => ?_⟩
        rcases Nat.eq_zero_or_pos d with h0 | h0
        · exfalso; apply h; rw [e, h0]; rfl
        · exact h0
  | n + 1, l, u, hl, hh, hd => by
    have hne : l ≠ [] := by intro e; rw [e] at hl; simp at hl
    obtain ⟨l', c, rfl⟩ : ∃ l' c, l = l' ++ [c] := ⟨l.dropLast, l.getLast hne, (List.dropLast_concat_getLast hne).symm⟩
    have hl' : l'.length = n + 1 := by simp at hl; exact hl
    have hhd : (l' ++ [c]).head? = l'.head? := by
      cases l' with
      | nil => simp at hl'
      | cons a r => rfl
    have hh' : l'.head? ≠ some 48 := by rw [← hhd]; exact hh (by simp; omega)
    rw [decFrom_snoc] at hd
    cases h1 : decFrom 0 l' with
    | none => rw [h1] at hd; cases hd
    | some m =>
      rw [h1] at hd
      simp only at hd
      cases hc : digitVal c with
      | none => rw [hc] at hd; cases hd
      | some d =>
        rw [hc] at hd
        simp at hd
        obtain ⟨e, h10⟩ := digitVal_some hc
        obtain ⟨e2, hp⟩ := dec_of n l' m hl' (fun _ => hh') h1
        have hm := hp hh'
        subst hd
        refine ⟨?_, fun _ => by omega⟩
        rw [decDigits, dif_neg (by omega), show (m * 10 + d) / 10 = m by omega, show (m * 10 + d) % 10 = d by omega, ← e2, e]

theorem whole_of {l : List UInt8} {u : Int} (h : wholeL l = u) (h0 : 0 ≤ u) : l = decDigits u.toNat := by
  unfold wholeL at h
  split at h
  · omega
  · rename_i hc
    split at h
    · rename_i n hn
      subst h
      have := (dec_of (l.length - 1) l n (by omega) (fun h1 h2 => hc (.inr (.inr ⟨h1, h2⟩))) hn).1
      simpa using this
    · omega

def numOk (n : Int) : Bool := decide (-1000000000 ≤ n) && decide (n ≤ 1000000000)
theorem numOk_iff {n : Int} : numOk n = true ↔ -1000000000 ≤ n ∧ n ≤ 1000000000 := by simp [numOk]

/-- a text's number, as the model reads it -/
def numV (l : List UInt8) : Option Int :=
  if 1 < l.length ∧ l.head? = some 45 then
    if 0 ≤ - wholeL l.tail then none else if numOk (- wholeL l.tail) then some (- wholeL l.tail) else none
  else if wholeL l < 0 then none else if numOk (wholeL l) then some (wholeL l) else none

theorem itoa_neg {n : Int} (h : n < 0) : itoa n = 45 :: decDigits n.natAbs := by unfold itoa; rw [if_pos h]
theorem itoa_pos {n : Int} (h : ¬ n < 0) : itoa n = decDigits n.toNat := by unfold itoa; rw [if_neg h]

theorem numV_itoa {n : Int} (h : numOk n = true) : numV (itoa n) = some n := by
  rw [numOk_iff] at h
  by_cases hn : n < 0
  · rw [itoa_neg hn]
    have hp := List.length_pos_iff.2 (decDigits_ne n.natAbs)
    have hw := whole_dec n.natAbs (by omega)
    unfold numV
    rw [if_pos (by simp; omega)]
    have e : wholeL (45 :: decDigits n.natAbs).tail = (n.natAbs : Int) := hw
    rw [if_neg (by rw [e]; omega), e, if_pos (by rw [numOk_iff]; omega)]
    congr 1; omega
  · rw [itoa_pos hn]
    have hw := whole_dec n.toNat (by omega)
    unfold numV
    rw [if_neg, hw, if_neg (by omega), if_pos (by rw [numOk_iff]; omega)]
    · congr 1; omega
    · rintro ⟨_, h2⟩
      obtain ⟨d, r, e, hd, _, _⟩ := dec_head n.toNat
      rw [e] at h2
      simp only [List.head?_cons, Option.some.injEq] at h2
      have := (ofNat_inj48 hd 45 (by omega)).1 h2
      omega

theorem numV_some {l : List UInt8} {n : Int} (h : numV l = some n) : numOk n = true ∧ l = itoa n := by
  unfold numV at h
  split at h
  · rename_i hc
    split at h
    · cases h
    · rename_i h0
      split at h
      · rename_i hk
        simp only [Option.some.injEq] at h
        subst h
        refine ⟨hk, ?_⟩
        rw [itoa_neg (by omega)]
        have e := whole_of (l := l.tail) rfl (by omega)
        match l, hc with
        | b :: r, ⟨_, h2⟩ =>
          simp only [List.head?_cons, Option.some.injEq] at h2
          simp only [List.tail_cons] at e h0 ⊢
          rw [h2]
          congr 1
          rw [show (-wholeL r).natAbs = (wholeL r).toNat by omega]
          exact e
      · cases h
  · split at h
    · cases h
    · split at h
      · rename_i hk
        simp only [Option.some.injEq] at h
        subst h
        refine ⟨hk, ?_⟩
        rw [itoa_pos (by omega)]
        exact whole_of rfl (by omega)
      · cases h

theorem atoi_itoa {n : Int} (h : numOk n = true) : atoiAll (itoa n) = .ok n := by
  rw [numOk_iff] at h
  have hd := decFrom_dec n.natAbs
  have hl := decDigits_length n.natAbs
  have hl2 := nDigits_10 n.natAbs (by omega)
  have hne : (decDigits n.natAbs).isEmpty = false := by
    have := decDigits_ne n.natAbs
    cases hx : decDigits n.natAbs with
    | nil => exact absurd hx this
    | cons a r => rfl
  by_cases hn : n < 0
  · rw [itoa_neg hn, atoiAll_short _ (by simp; omega)]
    have : atoi (45 :: decDigits n.natAbs) = some n := by
      show (decNat (decDigits n.natAbs)).map (fun (m : Nat) => -(m : Int)) = _
      unfold decNat
      rw [hne]
      simp only [Bool.false_eq_true, if_false]
      rw [hd]
      simp; omega
    rw [this]; rfl
  · rw [itoa_pos hn, show n.toNat = n.natAbs by omega, atoiAll_short _ (by omega)]
    have : atoi (decDigits n.natAbs) = some n := by
      obtain ⟨d, r, e, hdd, _, _⟩ := dec_head n.natAbs
      rw [e] at hd ⊢
      have h1 : (UInt8.ofNat (48 + d) == 45) = false := by
        rw [beq_eq_false_iff_ne]; intro e2
        have := (ofNat_inj48 hdd 45 (by omega)).1 e2
        omega
      have h2 : (UInt8.ofNat (48 + d) == 43) = false := by
        rw [beq_eq_false_iff_ne]; intro e2
        have := (ofNat_inj48 hdd 43 (by omega)).1 e2
        omega
      unfold atoi
      simp only [h1, h2, Bool.false_eq_true, if_false]
      unfold decNat
      rw [show (UInt8.ofNat (48 + d) :: r).isEmpty = false from rfl]
      simp only [Bool.false_eq_true, if_false]
      rw [hd]
      simp; omega
    rw [this]; rfl

/-- a text whose first byte is neither a digit nor a sign has no number -/
theorem numV_head {c : UInt8} {r : List UInt8} (h1 : c.toNat = 39) : numV (c :: r) = none := by
  cases h : numV (c :: r) with
  | none => rfl
  | some n =>
    obtain ⟨hk, e⟩ := numV_some h
    exfalso
    by_cases hn : n < 0
    · rw [itoa_neg hn] at e
      simp only [List.cons.injEq] at e
      rw [e.1] at h1; exact absurd h1 (by decide)
    · rw [itoa_pos hn] at e
      obtain ⟨d, r', e', hd, _, _⟩ := dec_head n.toNat
      rw [e'] at e
      simp only [List.cons.injEq] at e
      rw [e.1] at h1
      simp at h1; omega
end Go.Proofs.YtaflokfgbmlmaacGreatDoor
/-
  What the model's text of a number is: itoa of the number; nothing that was there has turned.
-/
namespace Go.Proofs.YtaflokfgbmlmaacGreatDoor
open Go.RowKit
set_option linter.unusedVariables false

theorem conv_one (q : Nat) (c : UInt8) (d : Int) (hd : d = (c.toNat : Int)) (W : World) (h : W.cell? ⟨q, 0, none⟩ = some (.int .u8 d)) :
    (convert 124 9 (.slice (some ⟨q, 0, none⟩) 1 1)).run Tryz.prog W = .ok (.string ⟨#[c]⟩) W := by
  subst hd
  have := run_convert_bytes_back (P := Tryz.prog) W 124 9 5 ⟨q, 0, none⟩ 1 [c] Tryz.underlying124 Tryz.underlying5 Tryz.underlying9 (fun j hj => by
    obtain rfl : j = 0 := by simpa using hj
    rw [Addr.add_lit, Nat.add_zero, h]
    simp)
  simpa using this
theorem digit_byte {d : Nat} (h : d < 10) : ∃ c : UInt8, 48 + (d : Int) = (c.toNat : Int) ∧ UInt8.ofNat (48 + d) = c := ⟨_, by simp; omega, rfl⟩
theorem dec_snoc {u : Nat} (h : ¬ u < 10) : (⟨(Lib.decDigits (u / 10)).toArray⟩ : ByteArray) ++ ⟨#[UInt8.ofNat (48 + u % 10)]⟩ = ⟨(Lib.decDigits u).toArray⟩ := by
  rw [show Lib.decDigits u = Lib.decDigits (u / 10) ++ [UInt8.ofNat (48 + u % 10)] by rw [Lib.decDigits, dif_neg h]]
  apply ByteArray.ext
  rw [ByteArray.data_append]
  simp

theorem dec_size {u : Nat} (h : u ≤ 1000000000) : (⟨(Lib.decDigits u).toArray⟩ : ByteArray).size ≤ 10 := by
  have h1 := Lib.decDigits_length u
  have h2 := nDigits_10 u h
  show (Lib.decDigits u).toArray.size ≤ 10
  simp; omega

theorem below_d {w w' : World} (hb : Below w.drew.heap.size w.drew w') : Below w.heap.size w w' := ((Below.refl w.heap.size w).drew).trans hb
theorem below_da {w w' : World} (hb : Below w.drew.heap.size w.drew w') (o : Obj) : Below w.heap.size w (w'.alloc o) := (below_d hb).alloc (below_d hb).size _

set_option maxRecDepth 100000 in
set_option maxHeartbeats 1600000 in
theorem l2Num_pos (u : Nat) : ∀ (x : Int) (w : World), x = (u : Int) → u ≤ 1000000000 →
    Calls Tryz.prog 38 #[.int .i64 x] w fun e w' => ∃ s, e = .returned (.string s) ∧ s.size ≤ 10 ∧ Hid (s = ⟨(Lib.decDigits u).toArray⟩) ∧ Below w.heap.size w w' := by
  induction u using Nat.strongRecOn with
  | _ u ih =>
    intro x w hx hu
    subst hx
    have HZ := hide (dec_size hu)
    by_cases h : u < 10
    · obtain ⟨c, hc, hb⟩ := digit_byte h
      have HD : Hid (Lib.decDigits u = [c]) := by unfold Hid; rw [Lib.decDigits_one h, hb]
      have hconv := conv_one w.heap.size c _ hc (w.alloc (.cells #[.int .u8 (48 + (u : Int))] 5)) (by simp)
      have hn0 : ¬ ((u : Int) < 0) := by omega
      have hn1 : (u : Int) < 10 := by omega
      clear ih hc hb
      go_enter Tryz.func38, Tryz.ntmps38
      go_wp2
      go_ret
      exact ⟨⟨#[c]⟩, rfl, show (1 : Nat) ≤ 10 by omega, by unfold Hid; rw [HD.out], by go_grown⟩
    · obtain ⟨c, hc, hb⟩ := digit_byte (show u % 10 < 10 by omega)
      have HD := hide (dec_snoc h)
      rw [hb] at HD
      have HI := hide (fun (x : Int) (w : World) (hx : x = ((u / 10 : Nat) : Int)) => ih (u / 10) (by omega) x w hx (by omega))
      clear ih
      have hn0 : ¬ ((u : Int) < 0) := by omega
      have hn1 : ¬ ((u : Int) < 10) := by omega
      have hv : IntKind.u8.wrap (IntKind.i64.wrap (48 + (u : Int).tmod 10)) = (c.toNat : Int) := by rw [Int.tmod_eq_emod_of_nonneg (by omega), IntKind.wrap_i64, IntKind.wrap_u8]; omega
      have hconv := fun q W => conv_one q c _ hv W
      have hc1 : (ByteArray.mk #[c]).size = 1 := rfl
      clear hv hc hb
      go_enter Tryz.func38, Tryz.ntmps38
      go_wp2_with fail
      go_region_with (go_at_call 38; refine (HI.out _ _ ?_).mono ?_; (first | omega | (rw [IntKind.wrap_i64]; omega)); rintro e w' ⟨s, rfl, hs, HS, hb⟩; obtain ⟨hc, hf⟩ := bcell hb)
      all_goals go_wp2
      all_goals go_ret
      all_goals refine ⟨s ++ ⟨#[c]⟩, rfl, by rw [HS.out, HD.out]; exact HZ.out, by unfold Hid; rw [HS.out]; exact HD.out, ?_⟩
      all_goals first | (with_reducible exact below_box hb) | (with_reducible exact below_da hb _) | (with_reducible exact below_d hb)

set_option maxHeartbeats 1600000 in
theorem l2Num_any (n : Int) (w : World) (h : -1000000000 ≤ n) (h' : n ≤ 1000000000) :
    Calls Tryz.prog 38 #[.int .i64 n] w fun e w' => ∃ s, e = .returned (.string s) ∧ s.size ≤ 11 ∧ Hid (s = ⟨(Lib.itoa n).toArray⟩) ∧ Below w.heap.size w w' := by
  by_cases hn : n < 0
  · have HI := hide (itoa_neg hn)
    go_enter Tryz.func38, Tryz.ntmps38
    go_wp2_with fail
    refine (l2Num_pos n.natAbs _ _ (by omega) (by omega)).mono ?_
    rintro e w1 ⟨s, rfl, hs, HS, hb⟩
    have hc1 : (ByteArray.mk #[45]).size = 1 := rfl
    have HT : Hid (⟨#[45]⟩ ++ s = ⟨(Lib.itoa n).toArray⟩) := by
      unfold Hid
      rw [HS.out, HI.out]
      apply ByteArray.ext
      rw [ByteArray.data_append]
      simp
    have HZ : Hid ((⟨#[45]⟩ ++ s : ByteArray).size ≤ 11) := by
      unfold Hid
      rw [ByteArray.size_append, hc1]; omega
    go_wp2
    go_ret
    exact ⟨⟨#[45]⟩ ++ s, rfl, HZ.out, HT, hb⟩
  · have HI := hide (itoa_pos hn)
    exact (l2Num_pos n.toNat n w (by omega) (by omega)).mono fun e w' ⟨s, h1, h2, h3, h4⟩ => ⟨s, h1, by omega, by unfold Hid; rw [h3.out, HI.out], h4⟩
end Go.Proofs.YtaflokfgbmlmaacGreatDoor
/-
  The library's table of powers of ten.
-/
namespace Go.Proofs.YtaflokfgbmlmaacGreatDoor
open Go.RowKit
set_option linter.unusedVariables false

/-- the library's table of powers of ten reads as its initialiser lays it -/
def Tab (w : World) : Prop := Lib.TabIs Tryz.prog w "internal/strconv.uint64pow10" .u64 Lib.pow10Tab
theorem gTab : ∃ g, Tryz.prog.globalNamed "internal/strconv.uint64pow10" = some g := Option.isSome_iff_exists.1 (by kernel_rfl)
theorem Tab.later {w w' : World} {B : Nat} (h : Tab w) (hb : Below B w w') (hB : w.heap.size ≤ B) : Tab w' := by
  obtain ⟨g, hg⟩ := gTab
  exact Joins.tab_stays hg h hb hB
end Go.Proofs.YtaflokfgbmlmaacGreatDoor
/-
  What the texts of values are, the tested one and the model's alike: textV of the value; nothing that was there has turned. (The tested one reads the library's table of powers of ten.)
-/
namespace Go.Proofs.YtaflokfgbmlmaacGreatDoor
open Go.RowKit
set_option linter.unusedVariables false

def textV (K N : Int) (S : ByteArray) : ByteArray :=
  if valB K N S then (if K = 1 then ⟨(Lib.itoa N).toArray⟩ else ⟨#[39]⟩ ++ S ++ ⟨#[39]⟩) else ⟨#[]⟩
theorem textV_num {N : Int} {S : ByteArray} (h : valB 1 N S = true) : textV 1 N S = ⟨(Lib.itoa N).toArray⟩ := by simp [textV, h]
theorem textV_text {K N : Int} {S : ByteArray} (h : valB K N S = true) (hk : K ≠ 1) : textV K N S = ⟨#[39]⟩ ++ S ++ ⟨#[39]⟩ := by simp [textV, h, hk]
theorem textV_no {K N : Int} {S : ByteArray} (h : valB K N S = false) : textV K N S = ⟨#[]⟩ := by simp [textV, h]
theorem ta_num_num (n : Int) (w : World) : (Instr.typeAssert (.iface 192 (.int .i64 n)) 174 192 true).run Tryz.prog w = .ok (.tuple #[.int .i64 n, .bool true]) w := by kernel_rfl
theorem ta_nil_num (w : World) : (Instr.typeAssert .nilIface 174 192 true).run Tryz.prog w = .ok (.tuple #[.int .i64 0, .bool false]) w := by kernel_rfl
theorem ta_text_num (s : ByteArray) (w : World) : (Instr.typeAssert (.iface 193 (.string s)) 174 192 true).run Tryz.prog w = .ok (.tuple #[.int .i64 0, .bool false]) w := by kernel_rfl
theorem ta_nil_text (w : World) : (Instr.typeAssert .nilIface 174 193 true).run Tryz.prog w = .ok (.tuple #[.string ⟨#[]⟩, .bool false]) w := by kernel_rfl
theorem ta_text_text (s : ByteArray) (w : World) : (Instr.typeAssert (.iface 193 (.string s)) 174 193 true).run Tryz.prog w = .ok (.tuple #[.string s, .bool true]) w := by kernel_rfl

theorem valB_texts {K N : Int} {S : ByteArray} (h : valB K N S = true) (hk : K ≠ 1) : S.size ≤ 20 := by
  by_cases h2 : K = 2
  · subst h2
    rw [valB_text] at h
    exact textB_le (by simp at h; exact h.1)
  · rw [valB_none N S hk h2] at h; cases h

set_option maxHeartbeats 1600000 in
theorem textOfSpoken_any (K N : Int) (S : ByteArray) (w : World) (ht : Tab w) :
    Calls Tryz.prog 131 #[spokV K N S] w fun e w' => e = .returned (.string (textV K N S)) ∧ Below w.heap.size w w' := by
  have t1 := ta_num_num
  have t2 := ta_nil_num
  have t3 := ta_text_num
  have t4 := ta_nil_text
  have t5 := ta_text_text
  cases hv : valB K N S
  · rw [spokV_no hv, textV_no hv]
    go_enter Tryz.func131, Tryz.ntmps131
    go_wp2
    go_ret
    exact ⟨rfl, Below.refl _ _⟩
  · by_cases hK : K = 1
    · subst hK
      have hr := hide (show -1000000000 ≤ N ∧ N ≤ 1000000000 by
        by_cases hr : -1000000000 ≤ N ∧ N ≤ 1000000000
        · exact hr
        · rw [valB_out S hr] at hv; cases hv)
      rw [spokV_one hv, textV_num hv]
      have HTab := hide ht
      clear ht hv
      go_enter Tryz.func131, Tryz.ntmps131
      go_wp2_with fail
      refine (Tryz.strconv_Itoa N (by have := hr.out; omega) (by have := hr.out; omega) _ HTab.out).mono ?_
      rintro e w1 ⟨rfl, k, os, rfl⟩
      have hb := Lib.below_grow w.heap.size w (Nat.le_refl _) k os
      generalize Sort.grow (w.drewN k) os = w1 at hb ⊢
      generalize hT : (⟨(Lib.itoa N).toArray⟩ : ByteArray) = s
      have HT := hide hT
      clear hT
      go_wp2
      go_ret
      exact ⟨by rw [HT.out]; rfl, hb⟩
    · have e : spokV K N S = .iface 193 (.string S) := by unfold spokV; rw [hv, if_pos rfl, if_neg hK]
      have hS := valB_texts hv hK
      have hc1 : (ByteArray.mk #[39]).size = 1 := rfl
      rw [e, textV_text hv hK]
      clear e hK hv
      go_enter Tryz.func131, Tryz.ntmps131
      go_wp2
      go_ret
      exact ⟨rfl, Below.refl _ _⟩

set_option maxHeartbeats 1600000 in
theorem implValText_any (K N : Int) (S : ByteArray) (w : World) (hs : S.size ≤ maxLen) (ht : Tab w) :
    Calls Tryz.prog 96 #[.agg #[.int .i64 K, .int .i64 N, .string S]] w fun e w' => e = .returned (.string (textV K N S)) ∧ Below w.heap.size w w' := by
  have HTab := hide ht
  clear ht
  go_enter Tryz.func96, Tryz.ntmps96
  go_wp2_with fail
  refine (spokenOf_any K N S _ hs).mono ?_
  rintro e w1 ⟨rfl, hb⟩
  have hb1 : Below w.heap.size w w1 := ((Below.refl w.heap.size w).alloc (Nat.le_refl _) _).trans (hb.mono (by simp))
  clear hb
  go_wp2_with fail
  refine (textOfSpoken_any K N S w1 (HTab.out.later hb1 (Nat.le_refl _))).mono ?_
  rintro e w2 ⟨rfl, hb2⟩
  have hb3 : Below w.heap.size w w2 := hb1.trans (hb2.mono hb1.size)
  clear hb2
  generalize hT : textV K N S = s
  have HT := hide hT
  clear hT
  go_wp2
  go_ret
  exact ⟨by rw [HT.out]; rfl, hb3⟩

set_option maxHeartbeats 1600000 in
theorem l2Text_any (K N : Int) (S : ByteArray) (w : World) (hv : valB K N S = true) :
    Calls Tryz.prog 114 #[.agg #[.int .i64 K, .int .i64 N, .string S]] w fun e w' => e = .returned (.string (textV K N S)) ∧ Below w.heap.size w w' := by
  by_cases hK : K = 1
  · subst hK
    have hr : -1000000000 ≤ N ∧ N ≤ 1000000000 := by
      by_cases hr : -1000000000 ≤ N ∧ N ≤ 1000000000
      · exact hr
      · rw [valB_out S hr] at hv; cases hv
    obtain ⟨hr1, hr2⟩ := hr
    have HV := hide (textV_num hv)
    clear hv
    go_enter Tryz.func114, Tryz.ntmps114
    go_wp2_with fail
    refine (l2Num_any N _ hr1 hr2).mono ?_
    rintro e w1 ⟨s, rfl, hs, HS, hb⟩
    have hb1 : Below w.heap.size w w1 := ((Below.refl w.heap.size w).alloc (Nat.le_refl _) _).trans (hb.mono (by simp))
    clear hb
    go_wp2
    go_ret
    exact ⟨by rw [HV.out, ← HS.out]; rfl, hb1⟩
  · have hS := valB_texts hv hK
    have HV := hide (textV_text hv hK)
    have hc1 : (ByteArray.mk #[39]).size = 1 := rfl
    have hk : (K == 1) = false := by simpa using hK
    clear hv hK
    go_enter Tryz.func114, Tryz.ntmps114
    go_wp2
    go_ret
    exact ⟨by rw [HV.out]; rfl, by go_grown⟩

end Go.Proofs.YtaflokfgbmlmaacGreatDoor
/-
  When a value is right, of its three parts at once.
-/
namespace Go.Proofs.YtaflokfgbmlmaacGreatDoor

def V3.ok (v : V3) : Bool := valB v.K v.N v.S
end Go.Proofs.YtaflokfgbmlmaacGreatDoor
/-
  The text of a value that is right is short.
-/
namespace Go.Proofs.YtaflokfgbmlmaacGreatDoor
open Go.RowKit
set_option linter.unusedVariables false

def V3.tx (v : V3) : ByteArray := textV v.K v.N v.S
theorem tx_size {v : V3} (h : v.ok = true) : v.tx.size ≤ 22 := by
  obtain ⟨K, N, S⟩ := v
  have h' : valB K N S = true := h
  show (textV K N S).size ≤ 22
  by_cases hk : K = 1
  · subst hk
    have hN : -1000000000 ≤ N ∧ N ≤ 1000000000 := by
      by_cases hN : -1000000000 ≤ N ∧ N ≤ 1000000000
      · exact hN
      · rw [valB_out S hN] at h'; cases h'
    rw [textV_num h']
    show (Lib.itoa N).toArray.size ≤ 22
    simp only [List.size_toArray]
    by_cases hn : N < 0
    · rw [itoa_neg hn]; have := nDigits_10 N.natAbs (by omega); simp only [List.length_cons]; rw [Lib.decDigits_length]; omega
    · rw [itoa_pos hn]; have := nDigits_10 N.toNat (by omega); rw [Lib.decDigits_length]; omega
  · have hS := valB_texts h' hk
    rw [textV_text h' hk]
    have e1 : (⟨#[39]⟩ : ByteArray).size = 1 := rfl
    simp only [ByteArray.size_append, e1]; omega
end Go.Proofs.YtaflokfgbmlmaacGreatDoor
/-
  What the functions on a fact's rightness answer: factB, the tested one and the model alike.
-/
namespace Go.Proofs.YtaflokfgbmlmaacGreatDoor
open Go.RowKit
set_option linter.unusedVariables false

def factB (kd : ByteArray) (L : List V3) : Bool := nameB kd && decide (L.length ≤ 5) && L.all V3.ok
theorem all_no {L : List V3} {k : Nat} (hk : k < L.length) (h : valB (vAt L k).K (vAt L k).N (vAt L k).S = false) : L.all V3.ok = false := by
  rw [Bool.eq_false_iff]
  intro ha
  have := List.all_eq_true.1 ha L[k] (List.getElem_mem hk)
  rw [← vAt_in hk] at this
  unfold V3.ok at this
  rw [h] at this; cases this
theorem all_yes {L : List V3} (h : ∀ k, k < L.length → valB (vAt L k).K (vAt L k).N (vAt L k).S = true) : L.all V3.ok = true := by
  rw [List.all_eq_true]
  intro v hv
  obtain ⟨k, hk, rfl⟩ := List.getElem_of_mem hv
  rw [← vAt_in hk]; exact h k hk
theorem below_gn {w w' : World} (h : w.grownBy w' none) : Below w.heap.size w w' := (Below.refl _ _).grown h (Nat.le_refl _) (fun k hk => by cases hk)

end Go.Proofs.YtaflokfgbmlmaacGreatDoor
/-
  What the text of a fact is: its kind, and the texts of its values between brackets; the model's and the tested one alike.
-/
namespace Go.Proofs.YtaflokfgbmlmaacGreatDoor
open Go.RowKit
set_option linter.unusedVariables false

/-- the texts with commas between -/
def joinV (L : List V3) : List UInt8 := Lib.join (L.map fun v => v.tx.data.toList) [44]
theorem joinV_nil : joinV [] = [] := rfl
theorem joinV_snoc (L : List V3) (v : V3) : joinV (L ++ [v]) = if L = [] then v.tx.data.toList else joinV L ++ (44 :: v.tx.data.toList) := by
  unfold joinV Lib.join
  induction L with
  | nil => simp [List.intercalate]
  | cons a r ih =>
    rw [if_neg (by simp)]
    cases r with
    | nil => simp [List.intercalate]
    | cons b s =>
      rw [if_neg (by simp)] at ih
      simp only [List.map_append, List.map_cons, List.map_nil, List.cons_append] at ih ⊢
      have e : ∀ (p q : List UInt8) (t : List (List UInt8)), List.intercalate [44] (p :: q :: t) = p ++ (44 :: List.intercalate [44] (q :: t)) := fun p q t => by simp [List.intercalate, List.intersperse]
      rw [e, e, ih]
      simp
theorem joinV_take {L : List V3} (h : ∀ v ∈ L, v.ok = true) : ∀ k, k ≤ L.length → (joinV (L.take k)).length ≤ 23 * k
  | 0, _ => by simp [joinV_nil]
  | k + 1, hk => by
    have ih := joinV_take h k (by omega)
    have h2 := tx_size (h L[k] (List.getElem_mem (by omega)))
    have e : L[k].tx.data.toList.length = L[k].tx.size := by rw [Array.length_toList]; rfl
    rw [List.take_succ_eq_append_getElem (by omega), joinV_snoc]
    split
    · omega
    · simp only [List.length_append, List.length_cons]; omega
def factT (kd : ByteArray) (L : List V3) : ByteArray := if factB kd L then kd ++ (⟨#[40]⟩ ++ ⟨(joinV L).toArray⟩ ++ ⟨#[41]⟩) else ⟨#[]⟩

theorem ok_at {L : List V3} (h : ∀ v ∈ L, v.ok = true) {k : Nat} (hk : k < L.length) : (vAt L k).ok = true := by rw [vAt_in hk]; exact h _ (List.getElem_mem hk)

end Go.Proofs.YtaflokfgbmlmaacGreatDoor
/-
  What the text of an argument is; the model's.
-/
namespace Go.Proofs.YtaflokfgbmlmaacGreatDoor
open Go.RowKit
set_option linter.unusedVariables false

def argT (K : Int) (S : ByteArray) (V : V3) : ByteArray := if K = 1 then S else if K = 2 then textV V.K V.N V.S else ⟨#[95]⟩
def A5.tx (x : A5) : ByteArray := argT x.K x.S x.V
theorem var_size {s : ByteArray} (h : varB s = true) : s.size ≤ 12 := by
  unfold varB inB at h
  simp only [Bool.and_eq_true, decide_eq_true_eq] at h
  omega
theorem txA_size {x : A5} (h : x.ok = true) : x.tx.size ≤ 22 := by
  obtain ⟨K, S, V⟩ := x
  have h' : argB K S V = true := h
  show (argT K S V).size ≤ 22
  unfold argT
  unfold argB at h'
  by_cases h1 : K = 1
  · rw [if_pos h1] at h' ⊢
    have := var_size ((Bool.and_eq_true _ _).mp h').1
    omega
  · rw [if_neg h1] at h' ⊢
    by_cases h2 : K = 2
    · rw [if_pos h2] at h' ⊢
      exact tx_size (v := V) ((Bool.and_eq_true _ _).mp h').1
    · rw [if_neg h2]
      show 1 ≤ 22
      omega
set_option maxRecDepth 100000 in
set_option maxHeartbeats 1600000 in
theorem l6ArgText_any (K : Int) (S : ByteArray) (V : V3) (w : World) (hok : argB K S V = true) :
    Calls Tryz.prog 75 #[.agg #[.int .i64 K, .string S, .int .i64 V.K, .int .i64 V.N, .string V.S]] w fun e w' => e = .returned (.string (argT K S V)) ∧ Below w.heap.size w w' := by
  have b0 := below_al w (.cells #[.int .i64 K, .string S, .int .i64 V.K, .int .i64 V.N, .string V.S] 54)
  by_cases h1 : K = 1
  · subst h1
    go_enter Tryz.func75, Tryz.ntmps75
    go_wp2
    go_ret
    exact ⟨rfl, b0⟩
  · have k1 : (K == 1) = false := by simpa using h1
    by_cases h2 : K = 2
    · subst h2
      have hv : valB V.K V.N V.S = true := by rw [argB2] at hok; exact ((Bool.and_eq_true _ _).mp hok).1
      go_enter Tryz.func75, Tryz.ntmps75
      go_wp2_with fail
      refine (l2Text_any _ _ _ _ hv).mono ?_
      rintro e w1 ⟨rfl, hb⟩
      have B1 : Below w.heap.size w w1 := b0.trans (hb.mono b0.size)
      go_wp2
      go_ret
      exact ⟨rfl, B1⟩
    · have k2 : (K == 2) = false := by simpa using h2
      have HR : Hid (argT K S V = ⟨#[95]⟩) := by unfold Hid argT; rw [if_neg h1, if_neg h2]
      clear h1 h2 hok
      go_enter Tryz.func75, Tryz.ntmps75
      go_wp2
      go_ret
      exact ⟨by rw [HR.out]; rfl, b0⟩
end Go.Proofs.YtaflokfgbmlmaacGreatDoor
/-
  What the text of a pattern is: a sign where it is Not, its kind, and the texts of its arguments between brackets; the model's.
-/
namespace Go.Proofs.YtaflokfgbmlmaacGreatDoor
open Go.RowKit
set_option linter.unusedVariables false

/-- the texts with a comma and a blank between -/
def joinA (L : List A5) : List UInt8 := Lib.join (L.map fun v => v.tx.data.toList) [44, 32]
theorem joinA_nil : joinA [] = [] := rfl
theorem joinA_snoc (L : List A5) (v : A5) : joinA (L ++ [v]) = if L = [] then v.tx.data.toList else joinA L ++ (44 :: 32 :: v.tx.data.toList) := by
  unfold joinA Lib.join
  induction L with
  | nil => simp [List.intercalate]
  | cons a r ih =>
    rw [if_neg (by simp)]
    cases r with
    | nil => simp [List.intercalate]
    | cons b s =>
      rw [if_neg (by simp)] at ih
      simp only [List.map_append, List.map_cons, List.map_nil, List.cons_append] at ih ⊢
      have e : ∀ (p q : List UInt8) (t : List (List UInt8)), List.intercalate [44, 32] (p :: q :: t) = p ++ (44 :: 32 :: List.intercalate [44, 32] (q :: t)) := fun p q t => by simp [List.intercalate, List.intersperse]
      rw [e, e, ih]
      simp
theorem joinA_take {L : List A5} (h : ∀ v ∈ L, v.ok = true) : ∀ k, k ≤ L.length → (joinA (L.take k)).length ≤ 24 * k
  | 0, _ => by simp [joinA_nil]
  | k + 1, hk => by
    have ih := joinA_take h k (by omega)
    have h2 := txA_size (h L[k] (List.getElem_mem (by omega)))
    have e : L[k].tx.data.toList.length = L[k].tx.size := by rw [Array.length_toList]; rfl
    rw [List.take_succ_eq_append_getElem (by omega), joinA_snoc]
    split
    · omega
    · simp only [List.length_append, List.length_cons]; omega
theorem joinA_le {L : List A5} (h : ∀ v ∈ L, v.ok = true) : (joinA L).length ≤ 24 * L.length := by
  have := joinA_take h L.length (Nat.le_refl _)
  rwa [List.take_length] at this
def notT (nt : Bool) (t : ByteArray) : ByteArray := if nt then ⟨#[33]⟩ ++ t else t
def patT (kd : ByteArray) (L : List A5) (nt : Bool) : ByteArray := if patB kd L then notT nt (kd ++ ⟨#[40]⟩) ++ ⟨(joinA L).toArray⟩ ++ ⟨#[41]⟩ else ⟨#[]⟩
theorem patT_no {kd : ByteArray} {L : List A5} {nt : Bool} (h : patB kd L = false) : patT kd L nt = ⟨#[]⟩ := by unfold patT; rw [if_neg (by rw [h]; simp)]
theorem patT_yes {kd : ByteArray} {L : List A5} {nt : Bool} (h : patB kd L = true) : patT kd L nt = notT nt (kd ++ ⟨#[40]⟩) ++ ⟨(joinA L).toArray⟩ ++ ⟨#[41]⟩ := by unfold patT; rw [if_pos h]
theorem patB_open {kd : ByteArray} {L : List A5} (h : patB kd L = true) : nameB kd = true ∧ L.length ≤ 5 ∧ ∀ v ∈ L, v.ok = true := by
  unfold patB at h
  simp only [Bool.and_eq_true, decide_eq_true_eq, List.all_eq_true] at h
  exact ⟨h.1.1, h.1.2, h.2⟩
theorem nameP_size {s : ByteArray} (h : nameB s = true) : s.size ≤ 12 := by
  unfold nameB inB at h
  simp only [Bool.and_eq_true, decide_eq_true_eq] at h
  omega

set_option maxRecDepth 100000 in
set_option maxHeartbeats 3200000 in
theorem specPatText_any (kd : ByteArray) (a : Option Addr) (cap : Nat) (L : List A5) (nt : Bool) (w : World) (hkd : kd.size ≤ maxLen) (hr : RdArg w a L) (hs : ∀ x ∈ L, x.fits) (hm : L.length ≤ 1048580) :
    Calls Tryz.prog 39 #[.agg #[.string kd, .slice a L.length cap, .bool nt]] w fun e w' =>
      e = .returned (.string (patT kd L nt)) ∧ Below w.heap.size w w' := by
  have b0 := below_al w (.cells #[.string kd, .slice a L.length cap, .bool nt] 48)
  have hP := boxk_new w #[.string kd, .slice a L.length cap, .bool nt] 48
  go_enter Tryz.func39, Tryz.ntmps39
  go_wp2_with fail
  refine (specPatOk_any kd a cap L nt _ hkd (hr.below b0) hs hm).mono ?_
  rintro e w1 ⟨rfl, hb1⟩
  have HP := hide (box_below hP hb1 (by simp))
  have hB1 : Below w.heap.size w w1 := b0.trans (hb1.mono b0.size)
  have hz1 : w.heap.size < w1.heap.size := Nat.lt_of_lt_of_le (by simp) hb1.size
  clear hb1 b0 hP
  cases hv : patB kd L
  · have HV := hide (patT_no (nt := nt) hv)
    clear hv
    go_wp2
    go_ret
    exact ⟨by rw [HV.out]; rfl, hB1⟩
  · obtain ⟨hn, h5, hok⟩ := patB_open hv
    have HV := hide (patT_yes (nt := nt) hv)
    have HOk := hide hok
    have hkn := nameP_size hn
    clear hv hok hn hm
    obtain ⟨n, hN⟩ : ∃ n, n = L.length := ⟨_, rfl⟩
    obtain ⟨p0, p1, p2, -, -, -⟩ := box_cell HP.out
    rw [← hN] at h5 HP p1 ⊢
    have HN := hide hN
    clear hN
    have c40 : (ByteArray.mk #[40]).size = 1 := rfl
    have c41 : (ByteArray.mk #[41]).size = 1 := rfl
    have c33 : (ByteArray.mk #[33]).size = 1 := rfl
    have c44 : (ByteArray.mk #[44, 32]).size = 2 := rfl
    obtain ⟨pre, hpre⟩ : ∃ pre, pre = notT nt (kd ++ ⟨#[40]⟩) := ⟨_, rfl⟩
    have hps : pre.size ≤ 14 := by
      rw [hpre]; unfold notT
      cases nt
      · simp only [Bool.false_eq_true, if_false, ByteArray.size_append, c40]; omega
      · simp only [if_true, ByteArray.size_append, c40, c33]; omega
    rw [← hpre] at HV
    have HPre := hide hpre
    have hk1 : (kd ++ ⟨#[40]⟩ : ByteArray).size = kd.size + 1 := by rw [ByteArray.size_append, c40]
    have HLoop : Hid (∀ (Q : Exit → Act → World → Prop), True) := fun _ => trivial
    clear hpre HLoop
    cases nt
    all_goals
      rw [show notT _ (kd ++ (⟨#[40]⟩ : ByteArray)) = _ from rfl] at HPre
      go_wp2
      go_loopw [3, 4] (fun s i wr => ∃ (k : Nat) (t : ByteArray), k ≤ n ∧ i = .int .i64 k ∧ s = .string t ∧ t.size ≤ 14 + 24 * k ∧ t = pre ++ ⟨(joinA (L.take k)).toArray⟩ ∧ Below w1.heap.size w1 wr) (fun _ i _ => n - (intOf i).toNat)
      case atStart =>
        refine ⟨0, pre, Nat.zero_le _, rfl, ?_, by omega, by rw [List.take_zero, joinA_nil]; apply ByteArray.ext; apply Array.toList_inj.1; simp, Below.refl _ _⟩
        rw [HPre.out]
        rfl
      case round =>
        clear p0 p1 p2
        obtain ⟨k, t, hk, rfl, rfl, hts, ht, hbel⟩ := hrel
        have HT := hide ht
        clear ht
        have hB : Below w.heap.size w wr := hB1.trans (hbel.mono hB1.size)
        have p1 := boxk_cell (box_below HP.out hbel hz1) 1 _ rfl
        by_cases hlt : k < n
        · obtain ⟨b, off, hab, hbw, hc⟩ := RdArg.cells (hr.below hB) (by rw [← HN.out]; omega)
          obtain ⟨c0, c1, c2, c3, c4⟩ := hc k (by rw [← HN.out]; exact hlt)
          clear hc
          subst hab
          have hv : (eAt L k).ok = true := by rw [eAt_in (by rw [← HN.out]; exact hlt)]; exact HOk.out _ (List.getElem_mem _)
          have hxs := txA_size hv
          have HTake : Hid (L.take (k + 1) = L.take k ++ [eAt L k]) := by unfold Hid; rw [List.take_succ_eq_append_getElem (by rw [← HN.out]; exact hlt), eAt_in]
          have HVx := hide (fun W => l6ArgText_any (eAt L k).K (eAt L k).S (eAt L k).V W hv)
          rw [show argT (eAt L k).K (eAt L k).S (eAt L k).V = (eAt L k).tx from rfl] at HVx
          by_cases h0 : k = 0
          · subst h0
            have HJ : Hid (t ++ (eAt L 0).tx = pre ++ ⟨(joinA (L.take 1)).toArray⟩) := by
              unfold Hid
              have h1 := HTake.out
              rw [Nat.zero_add, List.take_zero, List.nil_append] at h1
              rw [h1, HT.out, List.take_zero, joinA_nil]
              have e : joinA [eAt L 0] = (eAt L 0).tx.data.toList := by have := joinA_snoc [] (eAt L 0); simpa using this
              rw [e]
              apply ByteArray.ext; apply Array.toList_inj.1; simp
            simp only [Nat.zero_mul, Nat.add_zero] at c0 c1 c2 c3 c4
            generalize (eAt L 0).tx = x at hxs HVx HJ
            have hts1 : t.size ≤ 14 := by omega
            clear hv hts
            go_wp2_with fail
            refine (HVx.out _).mono ?_
            rintro e w2 ⟨rfl, hb2⟩
            have hbel2 : Below w1.heap.size w1 w2 := hbel.trans (hb2.mono hbel.size)
            clear hb2 hbel c0 c1 c2 c3 c4 p1 hB
            go_wp2
            go_roundw
            case rel => exact ⟨1, t ++ x, by omega, by go_num, rfl, by rw [ByteArray.size_append]; omega, HJ.out, hbel2⟩
            case measure => simp [intOf]; omega
          · have hne : L.take k ≠ [] := fun e => by have := congrArg List.length e; rw [List.length_take, List.length_nil] at this; have := HN.out; omega
            have HJ : Hid (t ++ ⟨#[44, 32]⟩ ++ (eAt L k).tx = pre ++ ⟨(joinA (L.take (k + 1))).toArray⟩) := by
              unfold Hid
              rw [HTake.out, joinA_snoc, if_neg hne, HT.out]
              apply ByteArray.ext; apply Array.toList_inj.1; simp
            generalize (eAt L k).tx = x at hxs HVx HJ
            have hkp : (0 : Int) < (k : Int) := by omega
            clear hv hne h0
            go_wp2_with fail
            refine (HVx.out _).mono ?_
            rintro e w2 ⟨rfl, hb2⟩
            have hbel2 : Below w1.heap.size w1 w2 := hbel.trans (hb2.mono hbel.size)
            have hsz2 : (t ++ ⟨#[44, 32]⟩ : ByteArray).size = t.size + 2 := by rw [ByteArray.size_append, c44]
            clear hb2 hbel c0 c1 c2 c3 c4 p1 hB
            go_wp2
            go_roundw
            case rel => exact ⟨k + 1, t ++ ⟨#[44, 32]⟩ ++ x, by omega, by go_num, rfl, by rw [ByteArray.size_append, hsz2]; omega, HJ.out, hbel2⟩
            case measure => simp [intOf]; omega
        · obtain rfl : k = n := by omega
          have HT2 : Hid (t = pre ++ ⟨(joinA L).toArray⟩) := by
            have := HT.out
            rw [HN.out, List.take_length] at this
            exact this
          go_wp2
          go_ret
          exact ⟨by rw [HV.out, ← HT2.out]; rfl, hB⟩
end Go.Proofs.YtaflokfgbmlmaacGreatDoor
/-
  What the tested function answers for an argument's text: argT.
-/
namespace Go.Proofs.YtaflokfgbmlmaacGreatDoor
open Go.RowKit
set_option linter.unusedVariables false

set_option maxRecDepth 100000 in
set_option maxHeartbeats 1600000 in
theorem argText_any (K : Int) (S : ByteArray) (V : V3) (w : World) (hs : S.size ≤ maxLen) (hv : V.S.size ≤ maxLen) (ht : Tab w) :
    Calls Tryz.prog 56 #[.agg #[.int .i64 K, .string S, .int .i64 V.K, .int .i64 V.N, .string V.S]] w fun e w' => e = .returned (.string (argT K S V)) ∧ Below w.heap.size w w' := by
  have b0 := below_al w (.cells #[.int .i64 K, .string S, .int .i64 V.K, .int .i64 V.N, .string V.S] 54)
  have HTab := hide (ht.later b0 (Nat.le_refl _))
  clear ht
  by_cases h1 : K = 1
  · subst h1
    go_enter Tryz.func56, Tryz.ntmps56
    go_wp2
    go_ret
    exact ⟨rfl, b0⟩
  · have k1 : (K == 1) = false := by simpa using h1
    by_cases h2 : K = 2
    · subst h2
      go_enter Tryz.func56, Tryz.ntmps56
      go_wp2_with fail
      refine (implValText_any _ _ _ _ hv HTab.out).mono ?_
      rintro e w1 ⟨rfl, hb⟩
      have B1 : Below w.heap.size w w1 := b0.trans (hb.mono b0.size)
      go_wp2
      go_ret
      exact ⟨rfl, B1⟩
    · have k2 : (K == 2) = false := by simpa using h2
      have HR : Hid (argT K S V = ⟨#[95]⟩) := by unfold Hid argT; rw [if_neg h1, if_neg h2]
      clear h1 h2
      go_enter Tryz.func56, Tryz.ntmps56
      go_wp2
      go_ret
      exact ⟨by rw [HR.out]; rfl, b0⟩
end Go.Proofs.YtaflokfgbmlmaacGreatDoor
/-
  What the text of a condition is; both CondTexts.
-/
namespace Go.Proofs.YtaflokfgbmlmaacGreatDoor
open Go.RowKit
set_option linter.unusedVariables false

/-- a condition's text -/
def condT (Op : Int) (L R : A5) : ByteArray := if condB Op L R then L.tx ++ ⟨#[32]⟩ ++ signT Op ++ ⟨#[32]⟩ ++ R.tx else ⟨#[]⟩
theorem condT_no {Op : Int} {L R : A5} (h : condB Op L R = false) : condT Op L R = ⟨#[]⟩ := by unfold condT; rw [if_neg (by rw [h]; simp)]
theorem condT_yes {Op : Int} {L R : A5} (h : condB Op L R = true) : condT Op L R = L.tx ++ ⟨#[32]⟩ ++ signT Op ++ ⟨#[32]⟩ ++ R.tx := by unfold condT; rw [if_pos h]
theorem condB_open {Op : Int} {L R : A5} (h : condB Op L R = true) : inB Op 1 3 = true ∧ L.ok = true ∧ R.ok = true := by
  unfold condB mayB at h
  simp only [Bool.and_eq_true] at h
  exact ⟨h.1, h.2.1.1, h.2.2.1⟩
theorem signT_size (Op : Int) : (signT Op).size ≤ 1 := by
  unfold signT
  split
  · decide
  · split
    · decide
    · split <;> decide

set_option maxRecDepth 100000 in
set_option maxHeartbeats 1600000 in
theorem implCondText_any (Op : Int) (L R : A5) (w : World) (hl : L.fits) (hr : R.fits) (ht : Tab w) :
    Calls Tryz.prog 22 #[.agg #[.int .i64 Op, .int .i64 L.K, .string L.S, .int .i64 L.V.K, .int .i64 L.V.N, .string L.V.S, .int .i64 R.K, .string R.S, .int .i64 R.V.K, .int .i64 R.V.N, .string R.V.S]] w fun e w' => e = .returned (.string (condT Op L R)) ∧ Below w.heap.size w w' := by
  obtain ⟨tx, htx⟩ : ∃ tx, tx = condT Op L R := ⟨_, rfl⟩
  rw [← htx]
  have HTx := hide htx
  have HCo := hide (fun W => implCondOk_any Op L R W hl hr)
  have hN : condB Op L R = false → tx = ⟨#[]⟩ := fun h => by rw [htx, condT_no h]
  have hY : condB Op L R = true → tx = L.tx ++ ⟨#[32]⟩ ++ signT Op ++ ⟨#[32]⟩ ++ R.tx ∧ inB Op 1 3 = true ∧ L.tx.size ≤ 22 ∧ R.tx.size ≤ 22 := fun h => ⟨by rw [htx, condT_yes h], (condB_open h).1, txA_size (condB_open h).2.1, txA_size (condB_open h).2.2⟩
  have HA1 := hide (fun W (h : Tab W) => argText_any L.K L.S L.V W hl.1 hl.2 h)
  have HA2 := hide (fun W (h : Tab W) => argText_any R.K R.S R.V W hr.1 hr.2 h)
  obtain ⟨cb, hcb⟩ : ∃ cb, cb = condB Op L R := ⟨_, rfl⟩
  rw [← hcb] at hN hY HCo
  rw [show argT L.K L.S L.V = L.tx from rfl] at HA1
  rw [show argT R.K R.S R.V = R.tx from rfl] at HA2
  generalize L.tx = y at hY HA1
  generalize R.tx = z at hY HA2
  have HTab := hide ht
  clear htx HTx hcb ht
  obtain ⟨LK, LS, LVK, LVN, LVS⟩ := L
  obtain ⟨RK, RS, RVK, RVN, RVS⟩ := R
  have hX := boxk_new w #[.int .i64 Op, .int .i64 LK, .string LS, .int .i64 LVK, .int .i64 LVN, .string LVS, .int .i64 RK, .string RS, .int .i64 RVK, .int .i64 RVN, .string RVS] 56
  have b0 := below_al w (.cells #[.int .i64 Op, .int .i64 LK, .string LS, .int .i64 LVK, .int .i64 LVN, .string LVS, .int .i64 RK, .string RS, .int .i64 RVK, .int .i64 RVN, .string RVS] 56)
  clear hl hr
  go_enter Tryz.func22, Tryz.ntmps22
  go_wp2_with fail
  refine (HCo.out _).mono ?_
  rintro e w1 ⟨rfl, hb⟩
  have HX := hide (box_below hX hb (by simp))
  have hB : Below w.heap.size w w1 := b0.trans (hb.mono b0.size)
  clear hb hX b0 HCo
  cases cb
  · have HN := hide (hN rfl)
    clear hN hY
    go_wp2
    go_ret
    exact ⟨by rw [HN.out]; rfl, hB⟩
  · obtain ⟨hT, hi, hy, hz⟩ := hY rfl
    have HY := hide hT
    clear hN hY hT
    have x0 := boxk_cell HX.out 0 _ rfl
    go_wp2_with fail
    refine (signOf_any Op _).mono ?_
    rintro e w2 ⟨rfl, hb⟩
    have HX2 := hide (box_step HX.out hb)
    have hB2 : Below w.heap.size w w2 := hB.trans (hb.mono hB.size)
    clear hb HX hB x0
    obtain ⟨fn, hf⟩ := signF_yes hi
    have hst := signT_size Op
    rw [hf, hi]
    clear hf hi
    generalize signT Op = st at HY hst
    have HX3 := hide (box_old HX2.out (Array.getElem?_eq_some_iff.1 HX2.out).1 (.cells #[.string st, .func (.func fn) #[] #[]] 106))
    have HS3 := hide (boxk_new w2 #[.string st, .func (.func fn) #[] #[]] 106)
    have hB3 := hB2.alloc hB2.size (.cells #[.string st, .func (.func fn) #[] #[]] 106)
    clear HX2 hB2
    have n1 : ¬ 9223372036854775807 < y.size + 1 := by omega
    have m1 : y.size + 1 ≤ 9223372036854775807 := by omega
    have n2 : ¬ 9223372036854775807 < y.size + 1 + st.size := by omega
    have m2 : y.size + 1 + st.size ≤ 9223372036854775807 := by omega
    have n3 : ¬ 9223372036854775807 < y.size + 1 + st.size + 1 := by omega
    have m3 : y.size + 1 + st.size + 1 ≤ 9223372036854775807 := by omega
    have n4 : ¬ 9223372036854775807 < y.size + 1 + st.size + 1 + z.size := by omega
    have m4 : y.size + 1 + st.size + 1 + z.size ≤ 9223372036854775807 := by omega
    clear hy hz hst
    go_wp2_with fail
    generalize w2.alloc (.cells #[.string st, .func (.func fn) #[] #[]] 106) = w3 at HX3 HS3 hB3
    have HT1 := hide (show Tab w3.drew from HTab.out.later hB3.drew (Nat.le_refl _))
    have X1 := hide (show w3.drew.heap[w.heap.size]? = _ from HX3.out)
    have S1 := hide (show w3.drew.heap[w2.heap.size]? = _ from HS3.out)
    have B1 := hide (show Below w.heap.size w w3.drew from hB3.drew)
    have x1 := boxk_cell X1.out 1 _ rfl
    have x2 := boxk_cell X1.out 2 _ rfl
    have x3 := boxk_cell X1.out 3 _ rfl
    have x4 := boxk_cell X1.out 4 _ rfl
    have x5 := boxk_cell X1.out 5 _ rfl
    have x6 := boxk_cell X1.out 6 _ rfl
    have x7 := boxk_cell X1.out 7 _ rfl
    have x8 := boxk_cell X1.out 8 _ rfl
    have x9 := boxk_cell X1.out 9 _ rfl
    have x10 := boxk_cell X1.out 10 _ rfl
    have s0 := boxk_cell S1.out 0 _ rfl
    clear HX3 HS3 hB3 HTab
    go_region_held3 (fun W => W.cell? ⟨w.heap.size, 1, none⟩ = some (.int .i64 LK) ∧ W.cell? ⟨w.heap.size, 2, none⟩ = some (.string LS) ∧ W.cell? ⟨w.heap.size, 3, none⟩ = some (.int .i64 LVK) ∧ W.cell? ⟨w.heap.size, 4, none⟩ = some (.int .i64 LVN) ∧ W.cell? ⟨w.heap.size, 5, none⟩ = some (.string LVS) ∧ W.cell? ⟨w.heap.size, 6, none⟩ = some (.int .i64 RK) ∧ W.cell? ⟨w.heap.size, 7, none⟩ = some (.string RS) ∧ W.cell? ⟨w.heap.size, 8, none⟩ = some (.int .i64 RVK) ∧ W.cell? ⟨w.heap.size, 9, none⟩ = some (.int .i64 RVN) ∧ W.cell? ⟨w.heap.size, 10, none⟩ = some (.string RVS) ∧ W.cell? ⟨w2.heap.size, 0, none⟩ = some (.string st)) (first | exact ⟨x1, x2, x3, x4, x5, x6, x7, x8, x9, x10, s0⟩ | exact ⟨boxk_cell (box_step X1.out b1) 1 _ rfl, boxk_cell (box_step X1.out b1) 2 _ rfl, boxk_cell (box_step X1.out b1) 3 _ rfl, boxk_cell (box_step X1.out b1) 4 _ rfl, boxk_cell (box_step X1.out b1) 5 _ rfl, boxk_cell (box_step X1.out b1) 6 _ rfl, boxk_cell (box_step X1.out b1) 7 _ rfl, boxk_cell (box_step X1.out b1) 8 _ rfl, boxk_cell (box_step X1.out b1) 9 _ rfl, boxk_cell (box_step X1.out b1) 10 _ rfl, boxk_cell (box_step S1.out b1) 0 _ rfl⟩ | exact ⟨boxk_cell (box_step (box_step X1.out b1) b2) 1 _ rfl, boxk_cell (box_step (box_step X1.out b1) b2) 2 _ rfl, boxk_cell (box_step (box_step X1.out b1) b2) 3 _ rfl, boxk_cell (box_step (box_step X1.out b1) b2) 4 _ rfl, boxk_cell (box_step (box_step X1.out b1) b2) 5 _ rfl, boxk_cell (box_step (box_step X1.out b1) b2) 6 _ rfl, boxk_cell (box_step (box_step X1.out b1) b2) 7 _ rfl, boxk_cell (box_step (box_step X1.out b1) b2) 8 _ rfl, boxk_cell (box_step (box_step X1.out b1) b2) 9 _ rfl, boxk_cell (box_step (box_step X1.out b1) b2) 10 _ rfl, boxk_cell (box_step (box_step S1.out b1) b2) 0 _ rfl⟩)
      (first | (go_at_call_of 56 LK; refine (HA1.out _ ?_).mono ?_; (with_reducible exact HT1.out); rintro e u1 ⟨rfl, b1⟩) | (go_at_call_of 56 RK; refine (HA2.out _ ?_).mono ?_; (with_reducible exact HT1.out.later b1 (Nat.le_refl _)); rintro e u2 ⟨rfl, b2⟩))
    all_goals
      have BE : Below w.heap.size w u2 := (B1.out.trans (b1.mono B1.out.size)).trans (b2.mono (B1.out.trans (b1.mono B1.out.size)).size)
      clear b1 b2 X1 S1 B1 HT1 HA1 HA2
      go_wp2
      go_ret
      exact ⟨by rw [HY.out]; rfl, BE⟩
end Go.Proofs.YtaflokfgbmlmaacGreatDoor
/-
  Boxes of eleven cells, and two or three boxes side by side: their cells set, what stands.
-/
namespace Go.Proofs.YtaflokfgbmlmaacGreatDoor
open Go.RowKit
set_option linter.unusedVariables false

theorem boxes3 (w : World) (c1 c2 c3 : Array Value) (T1 T2 T3 : TypeId) : (((w.alloc (.cells c1 T1)).alloc (.cells c2 T2)).alloc (.cells c3 T3)).heap[w.heap.size]? = some (.cells c1 T1 (0, 0)) ∧ (((w.alloc (.cells c1 T1)).alloc (.cells c2 T2)).alloc (.cells c3 T3)).heap[w.heap.size + 1]? = some (.cells c2 T2 (0, 0)) ∧ (((w.alloc (.cells c1 T1)).alloc (.cells c2 T2)).alloc (.cells c3 T3)).heap[w.heap.size + 1 + 1]? = some (.cells c3 T3 (0, 0)) ∧ Below w.heap.size w (((w.alloc (.cells c1 T1)).alloc (.cells c2 T2)).alloc (.cells c3 T3)) := by
  have b0 := below_al w (.cells c1 T1)
  have b1 := b0.alloc b0.size (.cells c2 T2)
  have b2 := b1.alloc b1.size (.cells c3 T3)
  have hA := box_old (box_old (boxk_new w c1 T1) (by simp) (.cells c2 T2)) (by simp; omega) (.cells c3 T3)
  have hR := box_old (boxk_new (w.alloc (.cells c1 T1)) c2 T2) (by simp) (.cells c3 T3)
  have hX := boxk_new ((w.alloc (.cells c1 T1)).alloc (.cells c2 T2)) c3 T3
  simp only [World.size_alloc] at hR hX
  exact ⟨hA, hR, hX, b2⟩
theorem boxes2 (w : World) (c1 c2 : Array Value) (T1 T2 : TypeId) : ((w.alloc (.cells c1 T1)).alloc (.cells c2 T2)).heap[w.heap.size]? = some (.cells c1 T1 (0, 0)) ∧ ((w.alloc (.cells c1 T1)).alloc (.cells c2 T2)).heap[w.heap.size + 1]? = some (.cells c2 T2 (0, 0)) ∧ Below w.heap.size w ((w.alloc (.cells c1 T1)).alloc (.cells c2 T2)) := by
  have b0 := below_al w (.cells c1 T1)
  have b1 := b0.alloc b0.size (.cells c2 T2)
  have hA := box_old (boxk_new w c1 T1) (by simp) (.cells c2 T2)
  have hX := boxk_new (w.alloc (.cells c1 T1)) c2 T2
  simp only [World.size_alloc] at hX
  exact ⟨hA, hX, b1⟩
theorem box11_set {w : World} {q : Nat} {c0 c1 c2 c3 c4 c5 c6 c7 c8 c9 c10 : Value} {T : TypeId} (h : w.heap[q]? = some (.cells #[c0, c1, c2, c3, c4, c5, c6, c7, c8, c9, c10] T (0, 0))) (v0 v1 v2 v3 v4 v5 v6 v7 v8 v9 v10 : Value) :
    (((((((((((w.setCell ⟨q, 0, none⟩ v0).setCell ⟨q, 1, none⟩ v1).setCell ⟨q, 2, none⟩ v2).setCell ⟨q, 3, none⟩ v3).setCell ⟨q, 4, none⟩ v4).setCell ⟨q, 5, none⟩ v5).setCell ⟨q, 6, none⟩ v6).setCell ⟨q, 7, none⟩ v7).setCell ⟨q, 8, none⟩ v8).setCell ⟨q, 9, none⟩ v9).setCell ⟨q, 10, none⟩ v10).heap[q]? = some (.cells #[v0, v1, v2, v3, v4, v5, v6, v7, v8, v9, v10] T (0, 0)) ∧ w.grownBy (((((((((((w.setCell ⟨q, 0, none⟩ v0).setCell ⟨q, 1, none⟩ v1).setCell ⟨q, 2, none⟩ v2).setCell ⟨q, 3, none⟩ v3).setCell ⟨q, 4, none⟩ v4).setCell ⟨q, 5, none⟩ v5).setCell ⟨q, 6, none⟩ v6).setCell ⟨q, 7, none⟩ v7).setCell ⟨q, 8, none⟩ v8).setCell ⟨q, 9, none⟩ v9).setCell ⟨q, 10, none⟩ v10) (some q) := by
  have g0 := (boxk_set h 0 v0).2
  have h0 : (w.setCell ⟨q, 0, none⟩ v0).heap[q]? = some (.cells #[v0, c1, c2, c3, c4, c5, c6, c7, c8, c9, c10] T (0, 0)) := (boxk_set h 0 v0).1
  have g1 := (boxk_set h0 1 v1).2
  have h1 : ((w.setCell ⟨q, 0, none⟩ v0).setCell ⟨q, 1, none⟩ v1).heap[q]? = some (.cells #[v0, v1, c2, c3, c4, c5, c6, c7, c8, c9, c10] T (0, 0)) := (boxk_set h0 1 v1).1
  have g2 := (boxk_set h1 2 v2).2
  have h2 : (((w.setCell ⟨q, 0, none⟩ v0).setCell ⟨q, 1, none⟩ v1).setCell ⟨q, 2, none⟩ v2).heap[q]? = some (.cells #[v0, v1, v2, c3, c4, c5, c6, c7, c8, c9, c10] T (0, 0)) := (boxk_set h1 2 v2).1
  have g3 := (boxk_set h2 3 v3).2
  have h3 : ((((w.setCell ⟨q, 0, none⟩ v0).setCell ⟨q, 1, none⟩ v1).setCell ⟨q, 2, none⟩ v2).setCell ⟨q, 3, none⟩ v3).heap[q]? = some (.cells #[v0, v1, v2, v3, c4, c5, c6, c7, c8, c9, c10] T (0, 0)) := (boxk_set h2 3 v3).1
  have g4 := (boxk_set h3 4 v4).2
  have h4 : (((((w.setCell ⟨q, 0, none⟩ v0).setCell ⟨q, 1, none⟩ v1).setCell ⟨q, 2, none⟩ v2).setCell ⟨q, 3, none⟩ v3).setCell ⟨q, 4, none⟩ v4).heap[q]? = some (.cells #[v0, v1, v2, v3, v4, c5, c6, c7, c8, c9, c10] T (0, 0)) := (boxk_set h3 4 v4).1
  have g5 := (boxk_set h4 5 v5).2
  have h5 : ((((((w.setCell ⟨q, 0, none⟩ v0).setCell ⟨q, 1, none⟩ v1).setCell ⟨q, 2, none⟩ v2).setCell ⟨q, 3, none⟩ v3).setCell ⟨q, 4, none⟩ v4).setCell ⟨q, 5, none⟩ v5).heap[q]? = some (.cells #[v0, v1, v2, v3, v4, v5, c6, c7, c8, c9, c10] T (0, 0)) := (boxk_set h4 5 v5).1
  have g6 := (boxk_set h5 6 v6).2
  have h6 : (((((((w.setCell ⟨q, 0, none⟩ v0).setCell ⟨q, 1, none⟩ v1).setCell ⟨q, 2, none⟩ v2).setCell ⟨q, 3, none⟩ v3).setCell ⟨q, 4, none⟩ v4).setCell ⟨q, 5, none⟩ v5).setCell ⟨q, 6, none⟩ v6).heap[q]? = some (.cells #[v0, v1, v2, v3, v4, v5, v6, c7, c8, c9, c10] T (0, 0)) := (boxk_set h5 6 v6).1
  have g7 := (boxk_set h6 7 v7).2
  have h7 : ((((((((w.setCell ⟨q, 0, none⟩ v0).setCell ⟨q, 1, none⟩ v1).setCell ⟨q, 2, none⟩ v2).setCell ⟨q, 3, none⟩ v3).setCell ⟨q, 4, none⟩ v4).setCell ⟨q, 5, none⟩ v5).setCell ⟨q, 6, none⟩ v6).setCell ⟨q, 7, none⟩ v7).heap[q]? = some (.cells #[v0, v1, v2, v3, v4, v5, v6, v7, c8, c9, c10] T (0, 0)) := (boxk_set h6 7 v7).1
  have g8 := (boxk_set h7 8 v8).2
  have h8 : (((((((((w.setCell ⟨q, 0, none⟩ v0).setCell ⟨q, 1, none⟩ v1).setCell ⟨q, 2, none⟩ v2).setCell ⟨q, 3, none⟩ v3).setCell ⟨q, 4, none⟩ v4).setCell ⟨q, 5, none⟩ v5).setCell ⟨q, 6, none⟩ v6).setCell ⟨q, 7, none⟩ v7).setCell ⟨q, 8, none⟩ v8).heap[q]? = some (.cells #[v0, v1, v2, v3, v4, v5, v6, v7, v8, c9, c10] T (0, 0)) := (boxk_set h7 8 v8).1
  have g9 := (boxk_set h8 9 v9).2
  have h9 : ((((((((((w.setCell ⟨q, 0, none⟩ v0).setCell ⟨q, 1, none⟩ v1).setCell ⟨q, 2, none⟩ v2).setCell ⟨q, 3, none⟩ v3).setCell ⟨q, 4, none⟩ v4).setCell ⟨q, 5, none⟩ v5).setCell ⟨q, 6, none⟩ v6).setCell ⟨q, 7, none⟩ v7).setCell ⟨q, 8, none⟩ v8).setCell ⟨q, 9, none⟩ v9).heap[q]? = some (.cells #[v0, v1, v2, v3, v4, v5, v6, v7, v8, v9, c10] T (0, 0)) := (boxk_set h8 9 v9).1
  have g10 := (boxk_set h9 10 v10).2
  have h10 : (((((((((((w.setCell ⟨q, 0, none⟩ v0).setCell ⟨q, 1, none⟩ v1).setCell ⟨q, 2, none⟩ v2).setCell ⟨q, 3, none⟩ v3).setCell ⟨q, 4, none⟩ v4).setCell ⟨q, 5, none⟩ v5).setCell ⟨q, 6, none⟩ v6).setCell ⟨q, 7, none⟩ v7).setCell ⟨q, 8, none⟩ v8).setCell ⟨q, 9, none⟩ v9).setCell ⟨q, 10, none⟩ v10).heap[q]? = some (.cells #[v0, v1, v2, v3, v4, v5, v6, v7, v8, v9, v10] T (0, 0)) := (boxk_set h9 10 v10).1
  exact ⟨h10, (grown_tt (grown_tt (grown_tt (grown_tt (grown_tt (grown_tt (grown_tt (grown_tt (grown_tt (grown_tt g0 g1) g2) g3) g4) g5) g6) g7) g8) g9) g10)⟩
theorem box11_setL {w : World} {q : Nat} {c0 c1 c2 c3 c4 c5 c6 c7 c8 c9 c10 : Value} {T : TypeId} (h : w.heap[q]? = some (.cells #[c0, c1, c2, c3, c4, c5, c6, c7, c8, c9, c10] T (0, 0))) (v1 v2 v3 v4 v5 : Value) :
    (((((w.setCell ⟨q, 1, none⟩ v1).setCell ⟨q, 2, none⟩ v2).setCell ⟨q, 3, none⟩ v3).setCell ⟨q, 4, none⟩ v4).setCell ⟨q, 5, none⟩ v5).heap[q]? = some (.cells #[c0, v1, v2, v3, v4, v5, c6, c7, c8, c9, c10] T (0, 0)) ∧ w.grownBy (((((w.setCell ⟨q, 1, none⟩ v1).setCell ⟨q, 2, none⟩ v2).setCell ⟨q, 3, none⟩ v3).setCell ⟨q, 4, none⟩ v4).setCell ⟨q, 5, none⟩ v5) (some q) := by
  have g1 := (boxk_set h 1 v1).2
  have h1 : (w.setCell ⟨q, 1, none⟩ v1).heap[q]? = some (.cells #[c0, v1, c2, c3, c4, c5, c6, c7, c8, c9, c10] T (0, 0)) := (boxk_set h 1 v1).1
  have g2 := (boxk_set h1 2 v2).2
  have h2 : ((w.setCell ⟨q, 1, none⟩ v1).setCell ⟨q, 2, none⟩ v2).heap[q]? = some (.cells #[c0, v1, v2, c3, c4, c5, c6, c7, c8, c9, c10] T (0, 0)) := (boxk_set h1 2 v2).1
  have g3 := (boxk_set h2 3 v3).2
  have h3 : (((w.setCell ⟨q, 1, none⟩ v1).setCell ⟨q, 2, none⟩ v2).setCell ⟨q, 3, none⟩ v3).heap[q]? = some (.cells #[c0, v1, v2, v3, c4, c5, c6, c7, c8, c9, c10] T (0, 0)) := (boxk_set h2 3 v3).1
  have g4 := (boxk_set h3 4 v4).2
  have h4 : ((((w.setCell ⟨q, 1, none⟩ v1).setCell ⟨q, 2, none⟩ v2).setCell ⟨q, 3, none⟩ v3).setCell ⟨q, 4, none⟩ v4).heap[q]? = some (.cells #[c0, v1, v2, v3, v4, c5, c6, c7, c8, c9, c10] T (0, 0)) := (boxk_set h3 4 v4).1
  have g5 := (boxk_set h4 5 v5).2
  have h5 : (((((w.setCell ⟨q, 1, none⟩ v1).setCell ⟨q, 2, none⟩ v2).setCell ⟨q, 3, none⟩ v3).setCell ⟨q, 4, none⟩ v4).setCell ⟨q, 5, none⟩ v5).heap[q]? = some (.cells #[c0, v1, v2, v3, v4, v5, c6, c7, c8, c9, c10] T (0, 0)) := (boxk_set h4 5 v5).1
  exact ⟨h5, (grown_tt (grown_tt (grown_tt (grown_tt g1 g2) g3) g4) g5)⟩
theorem box11_setR {w : World} {q : Nat} {c0 c1 c2 c3 c4 c5 c6 c7 c8 c9 c10 : Value} {T : TypeId} (h : w.heap[q]? = some (.cells #[c0, c1, c2, c3, c4, c5, c6, c7, c8, c9, c10] T (0, 0))) (v6 v7 v8 v9 v10 : Value) :
    (((((w.setCell ⟨q, 6, none⟩ v6).setCell ⟨q, 7, none⟩ v7).setCell ⟨q, 8, none⟩ v8).setCell ⟨q, 9, none⟩ v9).setCell ⟨q, 10, none⟩ v10).heap[q]? = some (.cells #[c0, c1, c2, c3, c4, c5, v6, v7, v8, v9, v10] T (0, 0)) ∧ w.grownBy (((((w.setCell ⟨q, 6, none⟩ v6).setCell ⟨q, 7, none⟩ v7).setCell ⟨q, 8, none⟩ v8).setCell ⟨q, 9, none⟩ v9).setCell ⟨q, 10, none⟩ v10) (some q) := by
  have g6 := (boxk_set h 6 v6).2
  have h6 : (w.setCell ⟨q, 6, none⟩ v6).heap[q]? = some (.cells #[c0, c1, c2, c3, c4, c5, v6, c7, c8, c9, c10] T (0, 0)) := (boxk_set h 6 v6).1
  have g7 := (boxk_set h6 7 v7).2
  have h7 : ((w.setCell ⟨q, 6, none⟩ v6).setCell ⟨q, 7, none⟩ v7).heap[q]? = some (.cells #[c0, c1, c2, c3, c4, c5, v6, v7, c8, c9, c10] T (0, 0)) := (boxk_set h6 7 v7).1
  have g8 := (boxk_set h7 8 v8).2
  have h8 : (((w.setCell ⟨q, 6, none⟩ v6).setCell ⟨q, 7, none⟩ v7).setCell ⟨q, 8, none⟩ v8).heap[q]? = some (.cells #[c0, c1, c2, c3, c4, c5, v6, v7, v8, c9, c10] T (0, 0)) := (boxk_set h7 8 v8).1
  have g9 := (boxk_set h8 9 v9).2
  have h9 : ((((w.setCell ⟨q, 6, none⟩ v6).setCell ⟨q, 7, none⟩ v7).setCell ⟨q, 8, none⟩ v8).setCell ⟨q, 9, none⟩ v9).heap[q]? = some (.cells #[c0, c1, c2, c3, c4, c5, v6, v7, v8, v9, c10] T (0, 0)) := (boxk_set h8 9 v9).1
  have g10 := (boxk_set h9 10 v10).2
  have h10 : (((((w.setCell ⟨q, 6, none⟩ v6).setCell ⟨q, 7, none⟩ v7).setCell ⟨q, 8, none⟩ v8).setCell ⟨q, 9, none⟩ v9).setCell ⟨q, 10, none⟩ v10).heap[q]? = some (.cells #[c0, c1, c2, c3, c4, c5, v6, v7, v8, v9, v10] T (0, 0)) := (boxk_set h9 10 v10).1
  exact ⟨h10, (grown_tt (grown_tt (grown_tt (grown_tt g6 g7) g8) g9) g10)⟩
theorem box11_post {P : Program} {f : Func} {Q : Ending → World → Prop} {x : Exit} {act : Act} {w : World} {q : Nat} {c0 c1 c2 c3 c4 c5 c6 c7 c8 c9 c10 v0 v1 v2 v3 v4 v5 v6 v7 v8 v9 v10 : Value} {T : TypeId} (h : w.heap[q]? = some (.cells #[c0, c1, c2, c3, c4, c5, c6, c7, c8, c9, c10] T (0, 0)))
    (k : ∀ w2, w2.heap[q]? = some (.cells #[v0, v1, v2, v3, v4, v5, v6, v7, v8, v9, v10] T (0, 0)) → w.grownBy w2 (some q) → bodyPost P f Q x act w2) : bodyPost P f Q x act (((((((((((w.setCell ⟨q, 0, none⟩ v0).setCell ⟨q, 1, none⟩ v1).setCell ⟨q, 2, none⟩ v2).setCell ⟨q, 3, none⟩ v3).setCell ⟨q, 4, none⟩ v4).setCell ⟨q, 5, none⟩ v5).setCell ⟨q, 6, none⟩ v6).setCell ⟨q, 7, none⟩ v7).setCell ⟨q, 8, none⟩ v8).setCell ⟨q, 9, none⟩ v9).setCell ⟨q, 10, none⟩ v10) :=
  k _ (box11_set h v0 v1 v2 v3 v4 v5 v6 v7 v8 v9 v10).1 (box11_set h v0 v1 v2 v3 v4 v5 v6 v7 v8 v9 v10).2
end Go.Proofs.YtaflokfgbmlmaacGreatDoor
/-
  A term's text: exprT, and what the tested function answers.
-/
namespace Go.Proofs.YtaflokfgbmlmaacGreatDoor
open Go.RowKit
set_option linter.unusedVariables false

/-- a term's text -/
def exprT (Op : ByteArray) (L R : A5) : ByteArray := if exprB Op L R then (if Op.size = 0 then L.tx else L.tx ++ ⟨#[32]⟩ ++ Op ++ ⟨#[32]⟩ ++ R.tx) else ⟨#[]⟩
theorem exprT_no {Op : ByteArray} {L R : A5} (h : exprB Op L R = false) : exprT Op L R = ⟨#[]⟩ := by unfold exprT; rw [if_neg (by rw [h]; simp)]
theorem exprT_one {L R : A5} (h : exprB ⟨#[]⟩ L R = true) : exprT ⟨#[]⟩ L R = L.tx := by unfold exprT; rw [if_pos h, if_pos (by rfl)]
theorem exprT_two {Op : ByteArray} {L R : A5} (h : exprB Op L R = true) (h0 : Op.size ≠ 0) : exprT Op L R = L.tx ++ ⟨#[32]⟩ ++ Op ++ ⟨#[32]⟩ ++ R.tx := by unfold exprT; rw [if_pos h, if_neg h0]
theorem exprB_left {Op : ByteArray} {L R : A5} (h : exprB Op L R = true) : L.ok = true := by
  rcases op_cases Op with e | e | e | ⟨_, _, _, h0, h1, h2⟩
  · rw [e, exprB0] at h; simp only [mayB, Bool.and_eq_true] at h; exact h.1.1
  · rw [e, exprB1] at h; simp only [mayB, Bool.and_eq_true] at h; exact h.1.1
  · rw [e, exprB2] at h; simp only [mayB, Bool.and_eq_true] at h; exact h.1.1
  · rw [exprB_no L R h0 h1 h2] at h; cases h
theorem exprB_right {Op : ByteArray} {L R : A5} (h : exprB Op L R = true) (hn : Op.size ≠ 0) : R.ok = true ∧ Op.size = 1 := by
  rcases op_cases Op with e | e | e | ⟨_, _, _, h0, h1, h2⟩
  · rw [e] at hn; exact absurd rfl hn
  · rw [e, exprB1] at h; simp only [mayB, Bool.and_eq_true] at h; exact ⟨h.2.1, by rw [e]; rfl⟩
  · rw [e, exprB2] at h; simp only [mayB, Bool.and_eq_true] at h; exact ⟨h.2.1, by rw [e]; rfl⟩
  · rw [exprB_no L R h0 h1 h2] at h; cases h

set_option maxRecDepth 100000 in
set_option maxHeartbeats 3200000 in
theorem implExprText_any (Op : ByteArray) (L R : A5) (w : World) (hl : L.fits) (hr : R.fits) (ht : Tab w) :
    Calls Tryz.prog 61 #[.agg #[.string Op, .int .i64 L.K, .string L.S, .int .i64 L.V.K, .int .i64 L.V.N, .string L.V.S, .int .i64 R.K, .string R.S, .int .i64 R.V.K, .int .i64 R.V.N, .string R.V.S]] w fun e w' => e = .returned (.string (exprT Op L R)) ∧ Below w.heap.size w w' := by
  obtain ⟨tx, htx⟩ : ∃ tx, tx = exprT Op L R := ⟨_, rfl⟩
  rw [← htx]
  have HCo := hide (fun W => implExprOk_any Op L R W hl hr)
  have hN : exprB Op L R = false → tx = ⟨#[]⟩ := fun h => by rw [htx, exprT_no h]
  have hO : exprB Op L R = true → Op.size = 0 → tx = L.tx ∧ L.tx.size ≤ 22 := fun h h0 => by
    obtain rfl := empty_of_size h0
    exact ⟨by rw [htx, exprT_one h], txA_size (exprB_left h)⟩
  have hY : exprB Op L R = true → Op.size ≠ 0 → tx = L.tx ++ ⟨#[32]⟩ ++ Op ++ ⟨#[32]⟩ ++ R.tx ∧ L.tx.size ≤ 22 ∧ R.tx.size ≤ 22 ∧ Op.size = 1 := fun h h0 => ⟨by rw [htx, exprT_two h h0], txA_size (exprB_left h), txA_size (exprB_right h h0).1, (exprB_right h h0).2⟩
  have HA1 := hide (fun W (h : Tab W) => argText_any L.K L.S L.V W hl.1 hl.2 h)
  have HA2 := hide (fun W (h : Tab W) => argText_any R.K R.S R.V W hr.1 hr.2 h)
  obtain ⟨cb, hcb⟩ : ∃ cb, cb = exprB Op L R := ⟨_, rfl⟩
  rw [← hcb] at hN hO hY HCo
  rw [show argT L.K L.S L.V = L.tx from rfl] at HA1
  rw [show argT R.K R.S R.V = R.tx from rfl] at HA2
  generalize L.tx = y at hO hY HA1
  generalize R.tx = z at hY HA2
  have HTab := hide ht
  clear htx hcb ht
  obtain ⟨LK, LS, LVK, LVN, LVS⟩ := L
  obtain ⟨RK, RS, RVK, RVN, RVS⟩ := R
  have hX := boxk_new w #[.string Op, .int .i64 LK, .string LS, .int .i64 LVK, .int .i64 LVN, .string LVS, .int .i64 RK, .string RS, .int .i64 RVK, .int .i64 RVN, .string RVS] 112
  have b0 := below_al w (.cells #[.string Op, .int .i64 LK, .string LS, .int .i64 LVK, .int .i64 LVN, .string LVS, .int .i64 RK, .string RS, .int .i64 RVK, .int .i64 RVN, .string RVS] 112)
  clear hl hr
  go_enter Tryz.func61, Tryz.ntmps61
  go_wp2_with fail
  refine (HCo.out _).mono ?_
  rintro e w1 ⟨rfl, hb⟩
  have HX := hide (box_below hX hb (by simp))
  have hB : Below w.heap.size w w1 := b0.trans (hb.mono b0.size)
  clear hb hX b0 HCo
  cases cb
  · have HN := hide (hN rfl)
    clear hN hY hO
    go_wp2
    go_ret
    exact ⟨by rw [HN.out]; rfl, hB⟩
  by_cases h0 : Op.size = 0
  · obtain ⟨hT, hy⟩ := hO rfl h0
    have HY := hide hT
    obtain rfl := empty_of_size h0
    clear hN hO hY hT
    have x0 := boxk_cell HX.out 0 _ rfl
    have x1 := boxk_cell HX.out 1 _ rfl
    have x2 := boxk_cell HX.out 2 _ rfl
    have x3 := boxk_cell HX.out 3 _ rfl
    have x4 := boxk_cell HX.out 4 _ rfl
    have x5 := boxk_cell HX.out 5 _ rfl
    have x6 := boxk_cell HX.out 6 _ rfl
    have x7 := boxk_cell HX.out 7 _ rfl
    have x8 := boxk_cell HX.out 8 _ rfl
    have x9 := boxk_cell HX.out 9 _ rfl
    have x10 := boxk_cell HX.out 10 _ rfl
    have HT1 := hide (HTab.out.later hB (Nat.le_refl _))
    go_wp2_with fail
    refine (HA1.out _ HT1.out).mono ?_
    rintro e w2 ⟨rfl, hb2⟩
    have hB2 : Below w.heap.size w w2 := hB.trans (hb2.mono hB.size)
    clear hb2 hB x0 x1 x2 x3 x4 x5 x6 x7 x8 x9 x10 HX
    go_wp2_with fail
    refine (cloneS_any _ _ (by omega)).mono ?_
    rintro e w3 ⟨rfl, hb3⟩
    have hB3 : Below w.heap.size w w3 := hB2.trans (hb3.mono hB2.size)
    go_wp2
    go_ret
    exact ⟨by rw [HY.out]; rfl, hB3⟩
  · obtain ⟨hT, hy, hz, ho⟩ := hY rfl h0
    have HY := hide hT
    have k0 := isEmpty_false h0
    clear hN hO hY hT h0
    have n1 : ¬ 9223372036854775807 < y.size + 1 := by omega
    have m1 : y.size + 1 ≤ 9223372036854775807 := by omega
    have n2 : ¬ 9223372036854775807 < y.size + 1 + Op.size := by omega
    have m2 : y.size + 1 + Op.size ≤ 9223372036854775807 := by omega
    have n3 : ¬ 9223372036854775807 < y.size + 1 + Op.size + 1 := by omega
    have m3 : y.size + 1 + Op.size + 1 ≤ 9223372036854775807 := by omega
    have n4 : ¬ 9223372036854775807 < y.size + 1 + Op.size + 1 + z.size := by omega
    have m4 : y.size + 1 + Op.size + 1 + z.size ≤ 9223372036854775807 := by omega
    clear hy hz ho
    have x0 := boxk_cell HX.out 0 _ rfl
    go_wp2_with fail
    clear x0
    have HT1 := hide (show Tab w1.drew from HTab.out.later hB.drew (Nat.le_refl _))
    have X1 := hide (show w1.drew.heap[w.heap.size]? = _ from HX.out)
    have B1 := hide (show Below w.heap.size w w1.drew from hB.drew)
    have x0 := boxk_cell X1.out 0 _ rfl
    have x1 := boxk_cell X1.out 1 _ rfl
    have x2 := boxk_cell X1.out 2 _ rfl
    have x3 := boxk_cell X1.out 3 _ rfl
    have x4 := boxk_cell X1.out 4 _ rfl
    have x5 := boxk_cell X1.out 5 _ rfl
    have x6 := boxk_cell X1.out 6 _ rfl
    have x7 := boxk_cell X1.out 7 _ rfl
    have x8 := boxk_cell X1.out 8 _ rfl
    have x9 := boxk_cell X1.out 9 _ rfl
    have x10 := boxk_cell X1.out 10 _ rfl
    clear HX hB HTab
    go_region_held3 (fun W => W.cell? ⟨w.heap.size, 0, none⟩ = some (.string Op) ∧ W.cell? ⟨w.heap.size, 1, none⟩ = some (.int .i64 LK) ∧ W.cell? ⟨w.heap.size, 2, none⟩ = some (.string LS) ∧ W.cell? ⟨w.heap.size, 3, none⟩ = some (.int .i64 LVK) ∧ W.cell? ⟨w.heap.size, 4, none⟩ = some (.int .i64 LVN) ∧ W.cell? ⟨w.heap.size, 5, none⟩ = some (.string LVS) ∧ W.cell? ⟨w.heap.size, 6, none⟩ = some (.int .i64 RK) ∧ W.cell? ⟨w.heap.size, 7, none⟩ = some (.string RS) ∧ W.cell? ⟨w.heap.size, 8, none⟩ = some (.int .i64 RVK) ∧ W.cell? ⟨w.heap.size, 9, none⟩ = some (.int .i64 RVN) ∧ W.cell? ⟨w.heap.size, 10, none⟩ = some (.string RVS)) (first | exact ⟨x0, x1, x2, x3, x4, x5, x6, x7, x8, x9, x10⟩ | exact ⟨boxk_cell (box_step X1.out b1) 0 _ rfl, boxk_cell (box_step X1.out b1) 1 _ rfl, boxk_cell (box_step X1.out b1) 2 _ rfl, boxk_cell (box_step X1.out b1) 3 _ rfl, boxk_cell (box_step X1.out b1) 4 _ rfl, boxk_cell (box_step X1.out b1) 5 _ rfl, boxk_cell (box_step X1.out b1) 6 _ rfl, boxk_cell (box_step X1.out b1) 7 _ rfl, boxk_cell (box_step X1.out b1) 8 _ rfl, boxk_cell (box_step X1.out b1) 9 _ rfl, boxk_cell (box_step X1.out b1) 10 _ rfl⟩ | exact ⟨boxk_cell (box_step (box_step X1.out b1) b2) 0 _ rfl, boxk_cell (box_step (box_step X1.out b1) b2) 1 _ rfl, boxk_cell (box_step (box_step X1.out b1) b2) 2 _ rfl, boxk_cell (box_step (box_step X1.out b1) b2) 3 _ rfl, boxk_cell (box_step (box_step X1.out b1) b2) 4 _ rfl, boxk_cell (box_step (box_step X1.out b1) b2) 5 _ rfl, boxk_cell (box_step (box_step X1.out b1) b2) 6 _ rfl, boxk_cell (box_step (box_step X1.out b1) b2) 7 _ rfl, boxk_cell (box_step (box_step X1.out b1) b2) 8 _ rfl, boxk_cell (box_step (box_step X1.out b1) b2) 9 _ rfl, boxk_cell (box_step (box_step X1.out b1) b2) 10 _ rfl⟩)
      (first | (go_at_call_of 56 LK; refine (HA1.out _ ?_).mono ?_; (with_reducible exact HT1.out); rintro e u1 ⟨rfl, b1⟩) | (go_at_call_of 56 RK; refine (HA2.out _ ?_).mono ?_; (with_reducible exact HT1.out.later b1 (Nat.le_refl _)); rintro e u2 ⟨rfl, b2⟩))
    all_goals
      have BE : Below w.heap.size w u2 := (B1.out.trans (b1.mono B1.out.size)).trans (b2.mono (B1.out.trans (b1.mono B1.out.size)).size)
      clear b1 b2 X1 B1 HT1 HA1 HA2
      go_wp2
      go_ret
      exact ⟨by rw [HY.out]; rfl, BE⟩
end Go.Proofs.YtaflokfgbmlmaacGreatDoor
/-
  The texts of terms, joined, behind a name: plainly, and what the tested program's functions answer.
-/
namespace Go.Proofs.YtaflokfgbmlmaacGreatDoor
open Go.RowKit
set_option linter.unusedVariables false

def X11.tx (x : X11) : ByteArray := exprT x.Op x.L x.R
theorem txX_size {x : X11} (h : x.ok = true) : x.tx.size ≤ 47 := by
  have h' : exprB x.Op x.L x.R = true := h
  by_cases h0 : x.Op.size = 0
  · have e : x.Op = ⟨#[]⟩ := empty_of_size h0
    unfold X11.tx
    rw [e] at h' ⊢
    rw [exprT_one h']
    have := txA_size (exprB_left h')
    omega
  · unfold X11.tx
    rw [exprT_two h' h0]
    have h1 := txA_size (exprB_left h')
    have h2 := txA_size (exprB_right h' h0).1
    have h3 := (exprB_right h' h0).2
    have c32 : (ByteArray.mk #[32]).size = 1 := rfl
    simp only [ByteArray.size_append, c32]
    omega

/-- the texts with a comma and a blank between -/
def joinX (L : List X11) : List UInt8 := Lib.join (L.map fun v => v.tx.data.toList) [44, 32]
theorem joinX_nil : joinX [] = [] := rfl
theorem joinX_snoc (L : List X11) (v : X11) : joinX (L ++ [v]) = if L = [] then v.tx.data.toList else joinX L ++ (44 :: 32 :: v.tx.data.toList) := by
  unfold joinX Lib.join
  induction L with
  | nil => simp [List.intercalate]
  | cons a r ih =>
    rw [if_neg (by simp)]
    cases r with
    | nil => simp [List.intercalate]
    | cons b s =>
      rw [if_neg (by simp)] at ih
      simp only [List.map_append, List.map_cons, List.map_nil, List.cons_append] at ih ⊢
      have e : ∀ (p q : List UInt8) (t : List (List UInt8)), List.intercalate [44, 32] (p :: q :: t) = p ++ (44 :: 32 :: List.intercalate [44, 32] (q :: t)) := fun p q t => by simp [List.intercalate, List.intersperse]
      rw [e, e, ih]
      simp
theorem joinX_take {L : List X11} (h : ∀ v ∈ L, v.ok = true) : ∀ k, k ≤ L.length → (joinX (L.take k)).length ≤ 49 * k
  | 0, _ => by simp [joinX_nil]
  | k + 1, hk => by
    have ih := joinX_take h k (by omega)
    have h2 := txX_size (h L[k] (List.getElem_mem (by omega)))
    have e : L[k].tx.data.toList.length = L[k].tx.size := by rw [Array.length_toList]; rfl
    rw [List.take_succ_eq_append_getElem (by omega), joinX_snoc]
    split
    · omega
    · simp only [List.length_append, List.length_cons]; omega
theorem joinX_le {L : List X11} (h : ∀ v ∈ L, v.ok = true) : (joinX L).length ≤ 49 * L.length := by
  have := joinX_take h L.length (Nat.le_refl _)
  rwa [List.take_length] at this

/-- a name with terms behind it -/
def namedT (nm : ByteArray) (L : List X11) : ByteArray := nm ++ ⟨#[40]⟩ ++ ⟨(joinX L).toArray⟩ ++ ⟨#[41]⟩
theorem namedX_open {nm : ByteArray} {L : List X11} (h : namedX nm L = true) : nameB nm = true ∧ L.length ≤ 5 ∧ ∀ v ∈ L, v.ok = true := by
  unfold namedX at h
  simp only [Bool.and_eq_true, decide_eq_true_eq, List.all_eq_true] at h
  exact ⟨h.1.1, h.1.2, h.2⟩
theorem joinX_size {L : List X11} (h5 : L.length ≤ 5) (h : ∀ v ∈ L, v.ok = true) : (⟨(joinX L).toArray⟩ : ByteArray).size ≤ 245 := by
  have := joinX_le h
  show (joinX L).toArray.size ≤ 245
  simp only [List.size_toArray]
  omega
theorem namedT_size {nm : ByteArray} {L : List X11} (h : namedX nm L = true) : (namedT nm L).size ≤ 259 := by
  obtain ⟨h1, h2, h3⟩ := namedX_open h
  have c40 : (ByteArray.mk #[40]).size = 1 := rfl
  have c41 : (ByteArray.mk #[41]).size = 1 := rfl
  have := joinX_size h2 h3
  have := nameP_size h1
  unfold namedT
  simp only [ByteArray.size_append, c40, c41]
  omega

theorem infoSX : (Tryz.prog.info? 9).map (fun i => (i.zero, i.size, i.bytes)) = some (some (.string ⟨#[]⟩), 1, 16) := by kernel_rfl
def cellsX (L : List X11) : List Value := L.map fun v => .string v.tx
theorem cellsX_snoc (L : List X11) (v : X11) : cellsX L ++ [.string v.tx] = cellsX (L ++ [v]) := by simp [cellsX]
def txsX (L : List X11) : List ByteArray := L.map X11.tx
theorem txsX_join (L : List X11) : Lib.join ((txsX L).map (·.data.toList)) (ByteArray.mk #[44, 32]).data.toList = joinX L := by
  unfold txsX joinX
  rw [List.map_map]
  rfl
theorem own_txsX {W : World} {base g c n : Nat} {L : List X11} (h : W.ownsRow base 9 1 (.slice (some ⟨g, 0, none⟩) n c) n (cellsX L)) :
    ∀ (j : Nat) x, (txsX L)[j]? = some x → W.cell? ⟨g, 0 + j, none⟩ = some (.string x) := by
  intro j x hj
  have := h.cells (g := g) rfl j (.string x) (by unfold txsX at hj; unfold cellsX; rw [List.getElem?_map] at hj ⊢; cases hq : L[j]? with
    | none => rw [hq] at hj; cases hj
    | some v => rw [hq] at hj; simp at hj ⊢; exact hj)
  rwa [Addr.add_lit] at this
theorem own_ltX {W : World} {base g c n : Nat} {T : TypeId} {xs : List Value} (h : W.ownsRow base T 1 (.slice (some ⟨g, 0, none⟩) n c) n xs) : g < W.heap.size ∧ n ≤ c := by
  refine ⟨(h.lt g rfl).2, ?_⟩
  rcases h.2 with ⟨h1, _⟩ | ⟨g', cap', cur, h1, hb', hh, hnc, _⟩
  · simp at h1
  · simp only [Value.slice.injEq] at h1; omega
theorem ret_strX {a b : ByteArray} (h : a = b) : Ending.returned (.string a) = .returned (.string b) := by rw [h]
theorem src1X (W : World) (x : ByteArray) : ∀ j u, ([.string x] : List Value)[j]? = some u → (W.alloc (.cells #[.string x] 9)).cell? ((⟨W.heap.size, 0, none⟩ : Addr).add j) = some u := by
  intro j u hj
  rw [Addr.add_lit, Nat.zero_add]
  have hb : (W.alloc (.cells #[.string x] 9)).heap[W.heap.size]? = some (.cells #[.string x] 9 (0, 0)) := by rw [heap_alloc_new]
  match j, hj with
  | 0, hj => rw [cell_of_row _ _ 0 _ _ (0, 0) hb]; simpa using hj
theorem one1X (x : ByteArray) : ∀ u ∈ ([.string x] : List Value), u.oneCell' = true := by
  intro u hu
  simp only [List.mem_cons, List.not_mem_nil, or_false] at hu
  rw [hu]; rfl

set_option maxRecDepth 100000 in
set_option maxHeartbeats 3200000 in
theorem joinExprs_any (a : Option Addr) (cap : Nat) (L : List X11) (sep : ByteArray) (w : World) (hr : RdExpr w a L) (hs : ∀ v ∈ L, v.fits) (hm : L.length ≤ 5) (ht : Tab w) (hlen : (Lib.join ((txsX L).map (·.data.toList)) sep.data.toList).length ≤ 140737488355328) :
    Calls Tryz.prog 104 #[.slice a L.length cap, .func (.func 61) #[] #[], .string sep] w fun e w' =>
      e = .returned (.string ⟨(Lib.join ((txsX L).map (·.data.toList)) sep.data.toList).toArray⟩) ∧ Below w.heap.size w w' := by
  obtain ⟨i0, hi, hz0, hz1, hz2⟩ := info_parts infoSX
  have HTab := hide ht
  have HS := hide hs
  have HL := hide hlen
  clear ht hs hlen
  obtain ⟨n, hN⟩ : ∃ n, n = L.length := ⟨_, rfl⟩
  rw [← hN] at hm ⊢
  have HN := hide hN
  clear hN
  have hz3 : (i0.bytes * n) = 16 * n := by rw [hz2]
  go_enter Tryz.func104, Tryz.ntmps104
  go_wp2_with (at_make; refine wpList_make_own _ rfl _ _ 80 rfl w.heap.size 9 i0 (.string ⟨#[]⟩) 1 Tryz.underlying80 hi hz0 hz1 _ _ _ n rfl rfl (by omega) ?b2 ?b3 (Nat.le_refl _) ?_)
  case b2 => rw [hz2]; omega
  case b3 => unfold maxLen; omega
  intro w2 ho2 hg2
  have b2 : Below w.heap.size w w2 := below_gn' hg2
  clear hg2
  go_wp2
  go_loopw [7, 15] (fun v i wr => ∃ (k g c : Nat), k ≤ n ∧ i = .int .i64 k ∧ v = .slice (some ⟨g, 0, none⟩) k c ∧ wr.ownsRow w.heap.size 9 1 (.slice (some ⟨g, 0, none⟩) k c) k (cellsX (L.take k)) ∧ Below w.heap.size w wr) (fun _ i _ => n - (intOf i).toNat)
  case atStart => exact ⟨0, w.heap.size, n, Nat.zero_le _, rfl, rfl, by rw [List.take_zero]; exact ho2, b2⟩
  case round =>
    clear ho2 b2
    obtain ⟨k, g, c, hk, rfl, rfl, hown, hbel⟩ := hrel
    by_cases hlt : k < n
    · have hlL : k < L.length := by rw [← HN.out]; exact hlt
      obtain ⟨b, off, hab, hbw, hc⟩ := RdExpr.cells hr (by omega)
      obtain ⟨c0, c1, c2, c3, c4, c5, c6, c7, c8, c9, c10⟩ := hc k hlL
      clear hc
      subst hab
      rw [← hbel.cell (p := ⟨b, off + k * 11, none⟩) hbw] at c0
      rw [← hbel.cell (p := ⟨b, off + k * 11 + 1, none⟩) hbw] at c1
      rw [← hbel.cell (p := ⟨b, off + k * 11 + 2, none⟩) hbw] at c2
      rw [← hbel.cell (p := ⟨b, off + k * 11 + 3, none⟩) hbw] at c3
      rw [← hbel.cell (p := ⟨b, off + k * 11 + 4, none⟩) hbw] at c4
      rw [← hbel.cell (p := ⟨b, off + k * 11 + 5, none⟩) hbw] at c5
      rw [← hbel.cell (p := ⟨b, off + k * 11 + 6, none⟩) hbw] at c6
      rw [← hbel.cell (p := ⟨b, off + k * 11 + 7, none⟩) hbw] at c7
      rw [← hbel.cell (p := ⟨b, off + k * 11 + 8, none⟩) hbw] at c8
      rw [← hbel.cell (p := ⟨b, off + k * 11 + 9, none⟩) hbw] at c9
      rw [← hbel.cell (p := ⟨b, off + k * 11 + 10, none⟩) hbw] at c10
      have HTake : Hid (cellsX (L.take k) ++ [.string (eAt L k).tx] = cellsX (L.take (k + 1))) := by unfold Hid; rw [cellsX_snoc, List.take_succ_eq_append_getElem hlL, eAt_in]
      have hS : (eAt L k).fits := by rw [eAt_in hlL]; exact HS.out _ (List.getElem_mem _)
      rw [show (eAt L k).tx = exprT (eAt L k).Op (eAt L k).L (eAt L k).R from rfl] at HTake
      generalize eAt L k = x at c0 c1 c2 c3 c4 c5 c6 c7 c8 c9 c10 HTake hS
      obtain ⟨hSo, hS0, hS1⟩ := hS
      have bA : Below w.heap.size w (wr.alloc (.cells #[.string x.Op, .int .i64 x.L.K, .string x.L.S, .int .i64 x.L.V.K, .int .i64 x.L.V.N, .string x.L.V.S, .int .i64 x.R.K, .string x.R.S, .int .i64 x.R.V.K, .int .i64 x.R.V.N, .string x.R.V.S] 112)) := hbel.alloc hbel.size _
      have hoA := hown.alloc (.cells #[.string x.Op, .int .i64 x.L.K, .string x.L.S, .int .i64 x.L.V.K, .int .i64 x.L.V.N, .string x.L.V.S, .int .i64 x.R.K, .string x.R.S, .int .i64 x.R.V.K, .int .i64 x.R.V.N, .string x.R.V.S] 112)
      have HTA : Hid (Tab (wr.alloc (.cells #[.string x.Op, .int .i64 x.L.K, .string x.L.S, .int .i64 x.L.V.K, .int .i64 x.L.V.N, .string x.L.V.S, .int .i64 x.R.K, .string x.R.S, .int .i64 x.R.V.K, .int .i64 x.R.V.N, .string x.R.V.S] 112))) := HTab.out.later bA (Nat.le_refl _)
      go_wp2_with fail
      refine (implExprText_any x.Op x.L x.R _ hS0 hS1 HTA.out).mono ?_
      rintro e w3 ⟨rfl, hb3⟩
      generalize exprT x.Op x.L x.R = tx at HTake
      have bel3 : Below w.heap.size w w3 := bA.trans (hb3.mono bA.size)
      have HO4 := hide ((ownsRow_below' hoA hb3).alloc (.cells #[.string tx] 9))
      have HB4 := hide (bel3.alloc bel3.size (.cells #[.string tx] 9))
      have HSrc := hide (src1X w3 tx)
      clear hb3 hbel hown hoA bA HTA c0 c1 c2 c3 c4 c5 c6 c7 c8 c9 c10 bel3
      go_wp2_with (at_builtin; refine wpList_append_lies _ rfl (.tmp 19) (.tmp 23) 80 rfl w.heap.size 9 i0 (.string ⟨#[]⟩) 1 16 Tryz.underlying80 hi hz0 hz1 hz2 rfl (by omega) (.slice (some ⟨g, 0, none⟩) k c) k (cellsX (L.take k)) rfl HO4.out ⟨w3.heap.size, 0, none⟩ 1 1 [.string tx] ?hx rfl HSrc.out (one1X tx) (by omega) (by unfold maxLen; omega) (by omega) HB4.out.size _ rfl ?_)
      case hx => simp [Act.eval]
      intro g5 c5 w5 ho5 hg5 hat5 hlt5
      have HO5 : Hid (w5.ownsRow w.heap.size 9 1 (.slice (some ⟨g5, 0, none⟩) (k + 1) c5) (k + 1) (cellsX (L.take (k + 1)))) := by
        unfold Hid
        rw [← HTake.out]
        exact ho5
      have HB5 := hide (HB4.out.grown hg5 HB4.out.size (fun k hk => (HO4.out.lt k hk).1))
      clear ho5 hg5 hat5 hlt5 HO4 HSrc HB4
      go_wp2
      go_roundw
      case rel => exact ⟨k + 1, g5, c5, by omega, by go_num, rfl, HO5.out, HB5.out⟩
      case measure => simp [intOf]; omega
    · obtain rfl : k = n := by omega
      have HO : Hid (wr.ownsRow w.heap.size 9 1 (.slice (some ⟨g, 0, none⟩) k c) k (cellsX L)) := by
        have := hown
        rw [HN.out, List.take_length, ← HN.out] at this
        exact this
      have hcs := own_txsX HO.out
      obtain ⟨hgl, hkc⟩ := own_ltX HO.out
      have htl : (txsX L).length = k := by unfold txsX; rw [List.length_map, HN.out]
      have hjoin := Tryz.strings_Join g 0 c (txsX L) sep wr hcs hgl (by rw [htl]; omega) (by rw [htl]; exact hkc) HL.out
      rw [htl] at hjoin
      clear hown HO
      go_wp2_with fail
      refine hjoin.mono ?_
      rintro e w6 ⟨rfl, hb6⟩
      have B6 : Below w.heap.size w w6 := hbel.trans (hb6.mono hbel.size)
      go_wp2
      go_ret
      exact ⟨rfl, B6⟩

set_option maxRecDepth 100000 in
set_option maxHeartbeats 1600000 in
theorem namedTextX_any (kd : ByteArray) (a : Option Addr) (cap : Nat) (L : List X11) (sep y : ByteArray) (w : World) (hkd : kd.size ≤ 12) (hr : RdExpr w a L) (hs : ∀ x ∈ L, x.fits) (hm : L.length ≤ 5) (ht : Tab w) (hy : y = ⟨(Lib.join ((txsX L).map (·.data.toList)) sep.data.toList).toArray⟩) (hlen : y.size ≤ 1000) :
    Calls Tryz.prog 60 #[.string kd, .slice a L.length cap, .func (.func 61) #[] #[], .string sep] w fun e w' =>
      e = .returned (.string (kd ++ ⟨#[40]⟩ ++ y ++ ⟨#[41]⟩)) ∧ Below w.heap.size w w' := by
  have hl2 : (Lib.join ((txsX L).map (·.data.toList)) sep.data.toList).length ≤ 1000 := by
    rw [hy] at hlen
    have h2 : (Lib.join ((txsX L).map (·.data.toList)) sep.data.toList).toArray.size ≤ 1000 := hlen
    simpa using h2
  have hj := joinExprs_any a cap L sep w hr hs hm ht (by omega)
  rw [← hy] at hj
  have HJ := hide hj
  clear hj hy
  have c40 : (ByteArray.mk #[40]).size = 1 := rfl
  have c41 : (ByteArray.mk #[41]).size = 1 := rfl
  have n0 : ¬ 9223372036854775807 < kd.size + 1 := by omega
  have m0 : kd.size + 1 ≤ 9223372036854775807 := by omega
  have n1 : ¬ 9223372036854775807 < kd.size + 1 + y.size := by omega
  have m1 : kd.size + 1 + y.size ≤ 9223372036854775807 := by omega
  have n2 : ¬ 9223372036854775807 < kd.size + 1 + y.size + 1 := by omega
  have m2 : kd.size + 1 + y.size + 1 ≤ 9223372036854775807 := by omega
  have n4 : ¬ 9223372036854775807 ≤ kd.size := by omega
  have m4 : kd.size < 9223372036854775807 := by omega
  have n5 : ¬ 9223372036854775807 ≤ kd.size + 1 + y.size := by omega
  have m5 : kd.size + 1 + y.size < 9223372036854775807 := by omega
  clear c40 c41
  go_enter Tryz.func60, Tryz.ntmps60
  go_wp2_with fail
  refine HJ.out.mono ?_
  rintro e w6 ⟨rfl, hb6⟩
  go_wp2
  go_ret
  exact ⟨ret_strX (by simp only [ByteArray.append_assoc]), hb6⟩


end Go.Proofs.YtaflokfgbmlmaacGreatDoor
/-
  The program's own table of an act's words, as its initialiser lays it.
-/
namespace Go.Proofs.YtaflokfgbmlmaacGreatDoor
open Go.RowKit
set_option linter.unusedVariables false

/-- the table of words reads as it is laid -/
def Wrd (w : World) : Prop := w.cell? ⟨0, 1, none⟩ = some (.string ⟨#[97, 115, 115, 101, 114, 116]⟩) ∧ w.cell? ⟨0, 2, none⟩ = some (.string ⟨#[100, 114, 111, 112]⟩) ∧ w.cell? ⟨0, 3, none⟩ = some (.string ⟨#[116, 97, 115, 107]⟩) ∧ w.cell? ⟨0, 4, none⟩ = some (.string ⟨#[116, 105, 109, 101, 114]⟩) ∧ w.cell? ⟨0, 5, none⟩ = some (.string ⟨#[100, 111, 110, 101]⟩) ∧ w.cell? ⟨0, 6, none⟩ = some (.string ⟨#[102, 97, 105, 108]⟩)
theorem Wrd.later {w w' : World} (h : Wrd w) (hb : Below w.heap.size w w') : Wrd w' := by
  have k : ∀ {a : Addr} {v : Value}, w.cell? a = some v → w'.cell? a = some v := fun {a v} h => by rw [hb.cell (World.block_lt_of_cell? w _ h)]; exact h
  exact ⟨k h.1, k h.2.1, k h.2.2.1, k h.2.2.2.1, k h.2.2.2.2.1, k h.2.2.2.2.2⟩

/-- An array of texts that reads as listed holds these texts, cell for cell. -/
theorem cells_of_texts {H : Type} {enc : TypeId × Value → H} {P : Program} {w : World} {base : Nat} {sp : Nat → Bool} {held : Bool} {fuel : Nat} {t e : TypeId} {n : Nat} {cs : List Value} {zs : List (List UInt8)} {p : List MemPlace}
    (ht : P.underlying t = some (.array n e)) (he : P.underlying e = some .string) (hce : P.cellsOf e = 1) (hct : P.cellsOf t = n)
    (h : DataW.trod enc P w base sp held fuel t cs = some (.agg (zs.map fun z => .lit (.string z)), p)) : cs = zs.map fun z => Value.string ⟨z.toArray⟩ := by
  cases fuel with
  | zero => simp [DataW.trod] at h
  | succ fuel =>
    simp only [DataW.trod, ht, hce, hct, Nat.mul_one] at h
    split at h
    · rename_i hl
      obtain ⟨xs, hm, hx⟩ := Option.map_eq_some_iff.1 h
      have hxs : xs.map (·.1) = zs.map fun z => (DataW.lit (.string z) : DataW H) := by
        have := congrArg Prod.fst hx
        simpa using this
      have hxl : xs.length = n := by simpa using Lib.mapM_length hm
      have hzl : zs.length = n := by
        have := congrArg List.length hxs
        simp at this
        omega
      apply List.ext_getElem?
      intro i
      by_cases hi : i < n
      · obtain ⟨b, hb, hf⟩ := Lib.mapM_at hm i i (by simp [hi])
        obtain ⟨z, hc, rfl, _⟩ := DataW.trod_string he hf
        have h1 : cs[i]? = some (.string z) := by
          have := congrArg (·[0]?) hc
          simpa [List.getElem?_take, List.getElem?_drop] using this
        have h2 : (xs.map (·.1))[i]? = some (DataW.lit (.string z.data.toList) : DataW H) := by simp [hb]
        rw [hxs] at h2
        simp only [List.getElem?_map, Option.map_eq_some_iff, DataW.lit.injEq, Lit.string.injEq] at h2
        obtain ⟨z', hz', e⟩ := h2
        simp [h1, hz', e]
      · rw [List.getElem?_eq_none (by omega), List.getElem?_eq_none (by simp; omega)]
    · cases h
theorem wrd_of_head {rest : List (String × DataW Unit)} {W : World} (h : laidMet Tryz.prog (("loop.example/g00282/impl.actWords", Rows.laid_loop_example_g00282_impl_actWords) :: rest) W) : Wrd W := by
  obtain ⟨ps, ⟨g', t', cs, fuel, p, q, hg', ht', hvar, hd, _, _⟩, _⟩ := h
  have hg : Tryz.prog.globalNamed "loop.example/g00282/impl.actWords" = some 0 := by kernel_rfl
  obtain rfl := Option.some.inj (hg.symm.trans hg')
  have hty : (Tryz.prog.globals[0]?).map (·.type) = some 109 := by kernel_rfl
  obtain rfl := Option.some.inj (hty.symm.trans ht')
  have hcs := cells_of_texts (zs := [[], [97, 115, 115, 101, 114, 116], [100, 114, 111, 112], [116, 97, 115, 107], [116, 105, 109, 101, 114], [100, 111, 110, 101], [102, 97, 105, 108]]) Tryz.underlying109 Tryz.underlying9 (by kernel_rfl) (by kernel_rfl) hd
  have hca : cs = _ := (Array.toArray_toList (xs := cs)).symm.trans (congrArg List.toArray hcs)
  rw [hca] at hvar
  have hc := fun i => World.var?_cell hg hvar i
  exact ⟨(hc 1).trans rfl, (hc 2).trans rfl, (hc 3).trans rfl, (hc 4).trans rfl, (hc 5).trans rfl, (hc 6).trans rfl⟩
end Go.Proofs.YtaflokfgbmlmaacGreatDoor
/-
  Sums and differences of values, plainly.
-/
namespace Go.Proofs.YtaflokfgbmlmaacGreatDoor
open Go.RowKit
set_option linter.unusedVariables false

/-- a value and whether it is one, as they are answered -/
def tupV (b : Bool) (n : Int) : Value := .tuple #[.agg #[.int .i64 (if b then 1 else 0), .int .i64 (if b then n else 0), .string ⟨#[]⟩], .bool b]
theorem tupV_no (n m : Int) : tupV false n = tupV false m := rfl
theorem tupV_open (b : Bool) (n : Int) : ∃ r1 r2 b', tupV b n = .tuple #[.agg #[.int .i64 r1, .int .i64 r2, .string ⟨#[]⟩], .bool b'] := ⟨_, _, _, rfl⟩
def isNum (K N : Int) (S : ByteArray) : Bool := K == 1 && valB K N S
def numN (K N : Int) (S : ByteArray) : Int := if isNum K N S then N else 0
theorem numN_in (K N : Int) (S : ByteArray) : -1000000000 ≤ numN K N S ∧ numN K N S ≤ 1000000000 := by
  unfold numN
  split
  · rename_i h
    simp only [isNum, Bool.and_eq_true, beq_iff_eq] at h
    obtain ⟨h1, h2⟩ := h
    subst h1
    by_cases hr : -1000000000 ≤ N ∧ N ≤ 1000000000
    · exact hr
    · rw [valB_out S hr] at h2; cases h2
  · omega
/-- what a sum or a difference n of two values answers -/
def sumV (K N : Int) (S : ByteArray) (K' N' : Int) (S' : ByteArray) (n : Int) : Value := tupV (isNum K N S && isNum K' N' S' && inB n (-1000000000) 1000000000) n
theorem sumV_eq {K N K' N' n m : Int} {S S' : ByteArray} (h : isNum K N S = true → isNum K' N' S' = true → n = m) : sumV K N S K' N' S' n = sumV K N S K' N' S' m := by
  unfold sumV
  cases h1 : isNum K N S
  · rfl
  · cases h2 : isNum K' N' S'
    · rfl
    · rw [h h1 h2]
theorem numN_of {K N : Int} {S : ByteArray} (h : isNum K N S = true) : numN K N S = N := by unfold numN; rw [if_pos h]
theorem valB_inB (n : Int) : valB 1 n ⟨#[]⟩ = inB n (-1000000000) 1000000000 := by
  have : (ByteArray.mk #[]).size = 0 := rfl
  simp [valB, this]
end Go.Proofs.YtaflokfgbmlmaacGreatDoor
