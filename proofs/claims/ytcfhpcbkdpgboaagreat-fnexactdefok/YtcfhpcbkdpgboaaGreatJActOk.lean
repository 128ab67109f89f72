/-
  What both ActOks answer: actB.
-/
import Derived.Test.YtcfhpcbkdpgboaaGreatJoined2
import Derived.Test.YtcfhpcbkdpgboaaGreatJoined1
namespace Go.Proofs.YtcfhpcbkdpgboaaGreat
open Go.RowKit
set_option linter.unusedVariables false

/-- an act with neither a name nor terms -/
def bareX (nm : ByteArray) (L : List X11) : Bool := decide (nm.size = 0) && decide (L.length = 0)
/-- when an act is right -/
def actB (K : Int) (nm : ByteArray) (L : List X11) (N : Int) (un : ByteArray) : Bool :=
  if K = 1 then namedX nm L && decide (N = 0) && decide (un.size = 0)
  else if K = 2 then bareX nm L && inB N 0 7 && decide (un.size = 0)
  else if K = 3 then namedX nm L && decide (N = 0) && (decide (un.size = 0) || nameB un)
  else if K = 4 then namedX nm L && inB N 0 100000 && decide (un.size = 0)
  else if K = 5 ∨ K = 6 then bareX nm L && decide (N = 0) && decide (un.size = 0)
  else false
theorem actB1 (nm : ByteArray) (L : List X11) (N : Int) (un : ByteArray) : actB 1 nm L N un = (namedX nm L && decide (N = 0) && decide (un.size = 0)) := rfl
theorem actB2 (nm : ByteArray) (L : List X11) (N : Int) (un : ByteArray) : actB 2 nm L N un = (bareX nm L && inB N 0 7 && decide (un.size = 0)) := rfl
theorem actB3 (nm : ByteArray) (L : List X11) (N : Int) (un : ByteArray) : actB 3 nm L N un = (namedX nm L && decide (N = 0) && (decide (un.size = 0) || nameB un)) := rfl
theorem actB4 (nm : ByteArray) (L : List X11) (N : Int) (un : ByteArray) : actB 4 nm L N un = (namedX nm L && inB N 0 100000 && decide (un.size = 0)) := rfl
theorem actB5 (nm : ByteArray) (L : List X11) (N : Int) (un : ByteArray) : actB 5 nm L N un = (bareX nm L && decide (N = 0) && decide (un.size = 0)) := rfl
theorem actB6 (nm : ByteArray) (L : List X11) (N : Int) (un : ByteArray) : actB 6 nm L N un = (bareX nm L && decide (N = 0) && decide (un.size = 0)) := rfl
theorem actB_no {K : Int} (nm : ByteArray) (L : List X11) (N : Int) (un : ByteArray) (h1 : K ≠ 1) (h2 : K ≠ 2) (h3 : K ≠ 3) (h4 : K ≠ 4) (h5 : K ≠ 5) (h6 : K ≠ 6) : actB K nm L N un = false := by
  simp [actB, h1, h2, h3, h4, h5, h6]
theorem k_cases (K : Int) : K = 1 ∨ K = 2 ∨ K = 3 ∨ K = 4 ∨ K = 5 ∨ K = 6 ∨ ((K == 1) = false ∧ (K == 2) = false ∧ (K == 3) = false ∧ (K == 4) = false ∧ (K == 5) = false ∧ (K == 6) = false ∧ K ≠ 1 ∧ K ≠ 2 ∧ K ≠ 3 ∧ K ≠ 4 ∧ K ≠ 5 ∧ K ≠ 6) := by
  by_cases h1 : K = 1; · simp [h1]
  by_cases h2 : K = 2; · simp [h2]
  by_cases h3 : K = 3; · simp [h3]
  by_cases h4 : K = 4; · simp [h4]
  by_cases h5 : K = 5; · simp [h5]
  by_cases h6 : K = 6; · simp [h6]
  simp [h1, h2, h3, h4, h5, h6]
theorem emp_t (s : ByteArray) : s.toList.isEmpty = decide (s.size = 0) := by
  by_cases h : s.size = 0
  · rw [decide_eq_true h, empty_of_size h, ByteArray.toList_eq]; rfl
  · rw [isEmpty_false h, decide_eq_false h]
theorem eq0_t (N : Int) : (N == 0) = decide (N = 0) := by
  by_cases h : N = 0 <;> simp [h]
theorem len0_t (n : Nat) : ((n : Int) == 0) = decide (n = 0) := by
  by_cases h : n = 0
  · simp [h]
  · rw [decide_eq_false h]; simpa using h
theorem len0_z (n : Nat) : decide ((n : Int) = 0) = decide (n = 0) := decide_eq_decide.2 (by omega)

theorem isUpTo_any (n m : Int) (w : World) : Calls Tryz.prog 83 #[.int .i64 n, .int .i64 m] w fun e w' => e = .returned (.bool (inB n 0 m)) ∧ w' = w := by
  by_cases h1 : 0 ≤ n
  · have HI : Hid (inB n 0 m = decide (n ≤ m)) := by unfold Hid inB; rw [decide_eq_true h1, Bool.true_and]
    go_enter Tryz.func83, Tryz.ntmps83
    go_wp2
    go_ret
    exact ⟨ret_bool HI.out.symm, rfl⟩
  · have HI : Hid (inB n 0 m = false) := inB_f (by omega)
    go_enter Tryz.func83, Tryz.ntmps83
    go_wp2
    go_ret
    exact ⟨ret_bool HI.out.symm, rfl⟩

set_option maxRecDepth 100000 in
set_option maxHeartbeats 3200000 in
theorem asksFor_any (K : Int) (nm : ByteArray) (a : Option Addr) (cap : Nat) (L : List X11) (N : Int) (un : ByteArray) (w : World) (hkd : nm.size ≤ maxLen) (hr : RdExpr w a L) (hs : ∀ x ∈ L, x.fits) (hm : L.length ≤ 1048580) :
    Calls Tryz.prog 81 #[.agg #[.int .i64 K, .string nm, .slice a L.length cap, .int .i64 N, .string un]] w fun e w' => e = .returned (.bool (namedX nm L)) ∧ Below w.heap.size w w' := by
  have b0 := below_al w (.cells #[.int .i64 K, .string nm, .slice a L.length cap, .int .i64 N, .string un] 77)
  go_enter Tryz.func81, Tryz.ntmps81
  go_wp2_with fail
  refine (namedX_any nm a cap L _ hkd (hr.below b0) hs hm).mono ?_
  rintro e w1 ⟨rfl, hb⟩
  have hB : Below w.heap.size w w1 := b0.trans (hb.mono b0.size)
  go_wp2
  go_ret
  exact ⟨rfl, hB⟩

set_option maxRecDepth 100000 in
set_option maxHeartbeats 3200000 in
theorem asksForNothing_any (K : Int) (nm : ByteArray) (a : Option Addr) (cap : Nat) (L : List X11) (N : Int) (un : ByteArray) (w : World) (hm : L.length ≤ 1048580) :
    Calls Tryz.prog 82 #[.agg #[.int .i64 K, .string nm, .slice a L.length cap, .int .i64 N, .string un]] w fun e w' => e = .returned (.bool (bareX nm L)) ∧ Below w.heap.size w w' := by
  have b0 := below_al w (.cells #[.int .i64 K, .string nm, .slice a L.length cap, .int .i64 N, .string un] 77)
  have HB : Hid (bareX nm L = (decide (nm.size = 0) && decide (L.length = 0))) := rfl
  have hn := emp_t nm
  have hl := len0_t L.length
  generalize decide (nm.size = 0) = x at HB hn
  generalize decide (L.length = 0) = y at HB hl
  cases x
  all_goals
    go_enter Tryz.func82, Tryz.ntmps82
    go_wp2
    go_ret
    exact ⟨by rw [HB.out]; rfl, b0⟩

set_option maxRecDepth 100000 in
set_option maxHeartbeats 3200000 in
theorem implActOk_1 (nm : ByteArray) (a : Option Addr) (cap : Nat) (L : List X11) (N : Int) (un : ByteArray) (w : World) (hkd : nm.size ≤ maxLen) (hr : RdExpr w a L) (hs : ∀ x ∈ L, x.fits) (hm : L.length ≤ 1048580) (hun : un.size ≤ maxLen) :
    Calls Tryz.prog 58 #[.agg #[.int .i64 1, .string nm, .slice a L.length cap, .int .i64 N, .string un]] w fun e w' => e = .returned (.bool (actB 1 nm L N un)) ∧ Below w.heap.size w w' := by
  have b0 := below_al w (.cells #[.int .i64 1, .string nm, .slice a L.length cap, .int .i64 N, .string un] 77)
  have hX := boxk_new w #[.int .i64 1, .string nm, .slice a L.length cap, .int .i64 N, .string un] 77
  have HC := hide (actB1 nm L N un)
  go_enter Tryz.func58, Tryz.ntmps58
  go_wp2_with fail
  refine (asksFor_any 1 nm a cap L N un _ hkd (hr.below b0) hs hm).mono ?_
  rintro e w1 ⟨rfl, hb⟩
  have HX1 := hide (box_step hX hb)
  have hB1 : Below w.heap.size w w1 := b0.trans (hb.mono b0.size)
  have y3 := boxk_cell HX1.out 3 _ rfl
  have y4 := boxk_cell HX1.out 4 _ rfl
  clear hb b0 hX HX1
  generalize namedX nm L = bb at HC ⊢
  have HU := hide hun
  clear hun hkd hs hr
  cases bb
  · go_wp2
    go_ret
    exact ⟨by rw [HC.out]; rfl, hB1⟩
  · by_cases hN : N = 0
    · subst hN
      by_cases hU : un.size = 0
      · obtain rfl := empty_of_size hU
        have H2 : Hid (actB 1 nm L 0 ⟨#[]⟩ = true) := HC.out
        clear hU
        go_wp2
        go_ret
        exact ⟨by rw [H2.out]; rfl, hB1⟩
      · have H2 : Hid (actB 1 nm L 0 un = false) := by unfold Hid; rw [HC.out, decide_eq_false hU]; rfl
        have hE := isEmpty_false hU
        clear hU
        go_wp2
        go_ret
        exact ⟨by rw [H2.out]; rfl, hB1⟩
    · have H2 : Hid (actB 1 nm L N un = false) := by unfold Hid; rw [HC.out, decide_eq_false hN]; rfl
      have k0 : (N == 0) = false := by simpa using hN
      clear hN
      go_wp2
      go_ret
      exact ⟨by rw [H2.out]; rfl, hB1⟩

set_option maxRecDepth 100000 in
set_option maxHeartbeats 3200000 in
theorem implActOk_2 (nm : ByteArray) (a : Option Addr) (cap : Nat) (L : List X11) (N : Int) (un : ByteArray) (w : World) (hkd : nm.size ≤ maxLen) (hr : RdExpr w a L) (hs : ∀ x ∈ L, x.fits) (hm : L.length ≤ 1048580) (hun : un.size ≤ maxLen) :
    Calls Tryz.prog 58 #[.agg #[.int .i64 2, .string nm, .slice a L.length cap, .int .i64 N, .string un]] w fun e w' => e = .returned (.bool (actB 2 nm L N un)) ∧ Below w.heap.size w w' := by
  have b0 := below_al w (.cells #[.int .i64 2, .string nm, .slice a L.length cap, .int .i64 N, .string un] 77)
  have hX := boxk_new w #[.int .i64 2, .string nm, .slice a L.length cap, .int .i64 N, .string un] 77
  have HC := hide (actB2 nm L N un)
  go_enter Tryz.func58, Tryz.ntmps58
  go_wp2_with fail
  refine (asksForNothing_any 2 nm a cap L N un _ hm).mono ?_
  rintro e w1 ⟨rfl, hb⟩
  have HX1 := hide (box_step hX hb)
  have hB1 : Below w.heap.size w w1 := b0.trans (hb.mono b0.size)
  have y3 := boxk_cell HX1.out 3 _ rfl
  have y4 := boxk_cell HX1.out 4 _ rfl
  clear hb b0 hX HX1
  generalize bareX nm L = bb at HC ⊢
  have HU := hide hun
  clear hun hkd hs hr
  cases bb
  · go_wp2
    go_ret
    exact ⟨by rw [HC.out]; rfl, hB1⟩
  · cases hI : inB N 0 7
    · have H2 : Hid (actB 2 nm L N un = false) := by unfold Hid; rw [HC.out, hI]; rfl
      go_wp2_with (go_at_call 83; refine (isUpTo_any _ _ _).mono ?_; rintro e w' ⟨rfl, rfl⟩; rw [hI])
      go_ret
      exact ⟨by rw [H2.out]; rfl, hB1⟩
    · rw [hI] at HC
      by_cases hU : un.size = 0
      · obtain rfl := empty_of_size hU
        have H2 : Hid (actB 2 nm L N ⟨#[]⟩ = true) := HC.out
        clear hU
        go_wp2_with (go_at_call 83; refine (isUpTo_any _ _ _).mono ?_; rintro e w' ⟨rfl, rfl⟩; rw [hI])
        go_ret
        exact ⟨by rw [H2.out]; rfl, hB1⟩
      · have H2 : Hid (actB 2 nm L N un = false) := by unfold Hid; rw [HC.out, decide_eq_false hU]; rfl
        have hE := isEmpty_false hU
        clear hU
        go_wp2_with (go_at_call 83; refine (isUpTo_any _ _ _).mono ?_; rintro e w' ⟨rfl, rfl⟩; rw [hI])
        go_ret
        exact ⟨by rw [H2.out]; rfl, hB1⟩

set_option maxRecDepth 100000 in
set_option maxHeartbeats 3200000 in
theorem implActOk_3 (nm : ByteArray) (a : Option Addr) (cap : Nat) (L : List X11) (N : Int) (un : ByteArray) (w : World) (hkd : nm.size ≤ maxLen) (hr : RdExpr w a L) (hs : ∀ x ∈ L, x.fits) (hm : L.length ≤ 1048580) (hun : un.size ≤ maxLen) :
    Calls Tryz.prog 58 #[.agg #[.int .i64 3, .string nm, .slice a L.length cap, .int .i64 N, .string un]] w fun e w' => e = .returned (.bool (actB 3 nm L N un)) ∧ Below w.heap.size w w' := by
  have b0 := below_al w (.cells #[.int .i64 3, .string nm, .slice a L.length cap, .int .i64 N, .string un] 77)
  have hX := boxk_new w #[.int .i64 3, .string nm, .slice a L.length cap, .int .i64 N, .string un] 77
  have HC := hide (actB3 nm L N un)
  go_enter Tryz.func58, Tryz.ntmps58
  go_wp2_with fail
  refine (asksFor_any 3 nm a cap L N un _ hkd (hr.below b0) hs hm).mono ?_
  rintro e w1 ⟨rfl, hb⟩
  have HX1 := hide (box_step hX hb)
  have hB1 : Below w.heap.size w w1 := b0.trans (hb.mono b0.size)
  have y3 := boxk_cell HX1.out 3 _ rfl
  have y4 := boxk_cell HX1.out 4 _ rfl
  clear hb b0 hX HX1
  generalize namedX nm L = bb at HC ⊢
  have HU := hide hun
  clear hun hkd hs hr
  cases bb
  · go_wp2
    go_ret
    exact ⟨by rw [HC.out]; rfl, hB1⟩
  · by_cases hN : N = 0
    · subst hN
      by_cases hU : un.size = 0
      · obtain rfl := empty_of_size hU
        have H2 : Hid (actB 3 nm L 0 ⟨#[]⟩ = true) := HC.out
        clear hU
        go_wp2
        go_ret
        exact ⟨by rw [H2.out]; rfl, hB1⟩
      · have H2 : Hid (actB 3 nm L 0 un = nameB un) := by unfold Hid; rw [HC.out, decide_eq_false hU]; rfl
        have hE := isEmpty_false hU
        clear hU
        go_wp2_with (go_at_call 15; refine (implNameOk_any _ _ HU.out).mono ?_; rintro e w' ⟨rfl, rfl⟩)
        go_ret
        exact ⟨by rw [H2.out]; rfl, hB1⟩
    · have H2 : Hid (actB 3 nm L N un = false) := by unfold Hid; rw [HC.out, decide_eq_false hN]; rfl
      have k0 : (N == 0) = false := by simpa using hN
      clear hN
      go_wp2
      go_ret
      exact ⟨by rw [H2.out]; rfl, hB1⟩

set_option maxRecDepth 100000 in
set_option maxHeartbeats 3200000 in
theorem implActOk_4 (nm : ByteArray) (a : Option Addr) (cap : Nat) (L : List X11) (N : Int) (un : ByteArray) (w : World) (hkd : nm.size ≤ maxLen) (hr : RdExpr w a L) (hs : ∀ x ∈ L, x.fits) (hm : L.length ≤ 1048580) (hun : un.size ≤ maxLen) :
    Calls Tryz.prog 58 #[.agg #[.int .i64 4, .string nm, .slice a L.length cap, .int .i64 N, .string un]] w fun e w' => e = .returned (.bool (actB 4 nm L N un)) ∧ Below w.heap.size w w' := by
  have b0 := below_al w (.cells #[.int .i64 4, .string nm, .slice a L.length cap, .int .i64 N, .string un] 77)
  have hX := boxk_new w #[.int .i64 4, .string nm, .slice a L.length cap, .int .i64 N, .string un] 77
  have HC := hide (actB4 nm L N un)
  go_enter Tryz.func58, Tryz.ntmps58
  go_wp2_with fail
  refine (asksFor_any 4 nm a cap L N un _ hkd (hr.below b0) hs hm).mono ?_
  rintro e w1 ⟨rfl, hb⟩
  have HX1 := hide (box_step hX hb)
  have hB1 : Below w.heap.size w w1 := b0.trans (hb.mono b0.size)
  have y3 := boxk_cell HX1.out 3 _ rfl
  have y4 := boxk_cell HX1.out 4 _ rfl
  clear hb b0 hX HX1
  generalize namedX nm L = bb at HC ⊢
  have HU := hide hun
  clear hun hkd hs hr
  cases bb
  · go_wp2
    go_ret
    exact ⟨by rw [HC.out]; rfl, hB1⟩
  · cases hI : inB N 0 100000
    · have H2 : Hid (actB 4 nm L N un = false) := by unfold Hid; rw [HC.out, hI]; rfl
      go_wp2_with (go_at_call 83; refine (isUpTo_any _ _ _).mono ?_; rintro e w' ⟨rfl, rfl⟩; rw [hI])
      go_ret
      exact ⟨by rw [H2.out]; rfl, hB1⟩
    · rw [hI] at HC
      by_cases hU : un.size = 0
      · obtain rfl := empty_of_size hU
        have H2 : Hid (actB 4 nm L N ⟨#[]⟩ = true) := HC.out
        clear hU
        go_wp2_with (go_at_call 83; refine (isUpTo_any _ _ _).mono ?_; rintro e w' ⟨rfl, rfl⟩; rw [hI])
        go_ret
        exact ⟨by rw [H2.out]; rfl, hB1⟩
      · have H2 : Hid (actB 4 nm L N un = false) := by unfold Hid; rw [HC.out, decide_eq_false hU]; rfl
        have hE := isEmpty_false hU
        clear hU
        go_wp2_with (go_at_call 83; refine (isUpTo_any _ _ _).mono ?_; rintro e w' ⟨rfl, rfl⟩; rw [hI])
        go_ret
        exact ⟨by rw [H2.out]; rfl, hB1⟩

set_option maxRecDepth 100000 in
set_option maxHeartbeats 3200000 in
theorem implActOk_5 (nm : ByteArray) (a : Option Addr) (cap : Nat) (L : List X11) (N : Int) (un : ByteArray) (w : World) (hkd : nm.size ≤ maxLen) (hr : RdExpr w a L) (hs : ∀ x ∈ L, x.fits) (hm : L.length ≤ 1048580) (hun : un.size ≤ maxLen) :
    Calls Tryz.prog 58 #[.agg #[.int .i64 5, .string nm, .slice a L.length cap, .int .i64 N, .string un]] w fun e w' => e = .returned (.bool (actB 5 nm L N un)) ∧ Below w.heap.size w w' := by
  have b0 := below_al w (.cells #[.int .i64 5, .string nm, .slice a L.length cap, .int .i64 N, .string un] 77)
  have hX := boxk_new w #[.int .i64 5, .string nm, .slice a L.length cap, .int .i64 N, .string un] 77
  have HC := hide (actB5 nm L N un)
  go_enter Tryz.func58, Tryz.ntmps58
  go_wp2_with fail
  refine (asksForNothing_any 5 nm a cap L N un _ hm).mono ?_
  rintro e w1 ⟨rfl, hb⟩
  have HX1 := hide (box_step hX hb)
  have hB1 : Below w.heap.size w w1 := b0.trans (hb.mono b0.size)
  have y3 := boxk_cell HX1.out 3 _ rfl
  have y4 := boxk_cell HX1.out 4 _ rfl
  clear hb b0 hX HX1
  generalize bareX nm L = bb at HC ⊢
  have HU := hide hun
  clear hun hkd hs hr
  cases bb
  · go_wp2
    go_ret
    exact ⟨by rw [HC.out]; rfl, hB1⟩
  · by_cases hN : N = 0
    · subst hN
      by_cases hU : un.size = 0
      · obtain rfl := empty_of_size hU
        have H2 : Hid (actB 5 nm L 0 ⟨#[]⟩ = true) := HC.out
        clear hU
        go_wp2
        go_ret
        exact ⟨by rw [H2.out]; rfl, hB1⟩
      · have H2 : Hid (actB 5 nm L 0 un = false) := by unfold Hid; rw [HC.out, decide_eq_false hU]; rfl
        have hE := isEmpty_false hU
        clear hU
        go_wp2
        go_ret
        exact ⟨by rw [H2.out]; rfl, hB1⟩
    · have H2 : Hid (actB 5 nm L N un = false) := by unfold Hid; rw [HC.out, decide_eq_false hN]; rfl
      have k0 : (N == 0) = false := by simpa using hN
      clear hN
      go_wp2
      go_ret
      exact ⟨by rw [H2.out]; rfl, hB1⟩

set_option maxRecDepth 100000 in
set_option maxHeartbeats 3200000 in
theorem implActOk_6 (nm : ByteArray) (a : Option Addr) (cap : Nat) (L : List X11) (N : Int) (un : ByteArray) (w : World) (hkd : nm.size ≤ maxLen) (hr : RdExpr w a L) (hs : ∀ x ∈ L, x.fits) (hm : L.length ≤ 1048580) (hun : un.size ≤ maxLen) :
    Calls Tryz.prog 58 #[.agg #[.int .i64 6, .string nm, .slice a L.length cap, .int .i64 N, .string un]] w fun e w' => e = .returned (.bool (actB 6 nm L N un)) ∧ Below w.heap.size w w' := by
  have b0 := below_al w (.cells #[.int .i64 6, .string nm, .slice a L.length cap, .int .i64 N, .string un] 77)
  have hX := boxk_new w #[.int .i64 6, .string nm, .slice a L.length cap, .int .i64 N, .string un] 77
  have HC := hide (actB6 nm L N un)
  go_enter Tryz.func58, Tryz.ntmps58
  go_wp2_with fail
  refine (asksForNothing_any 6 nm a cap L N un _ hm).mono ?_
  rintro e w1 ⟨rfl, hb⟩
  have HX1 := hide (box_step hX hb)
  have hB1 : Below w.heap.size w w1 := b0.trans (hb.mono b0.size)
  have y3 := boxk_cell HX1.out 3 _ rfl
  have y4 := boxk_cell HX1.out 4 _ rfl
  clear hb b0 hX HX1
  generalize bareX nm L = bb at HC ⊢
  have HU := hide hun
  clear hun hkd hs hr
  cases bb
  · go_wp2
    go_ret
    exact ⟨by rw [HC.out]; rfl, hB1⟩
  · by_cases hN : N = 0
    · subst hN
      by_cases hU : un.size = 0
      · obtain rfl := empty_of_size hU
        have H2 : Hid (actB 6 nm L 0 ⟨#[]⟩ = true) := HC.out
        clear hU
        go_wp2
        go_ret
        exact ⟨by rw [H2.out]; rfl, hB1⟩
      · have H2 : Hid (actB 6 nm L 0 un = false) := by unfold Hid; rw [HC.out, decide_eq_false hU]; rfl
        have hE := isEmpty_false hU
        clear hU
        go_wp2
        go_ret
        exact ⟨by rw [H2.out]; rfl, hB1⟩
    · have H2 : Hid (actB 6 nm L N un = false) := by unfold Hid; rw [HC.out, decide_eq_false hN]; rfl
      have k0 : (N == 0) = false := by simpa using hN
      clear hN
      go_wp2
      go_ret
      exact ⟨by rw [H2.out]; rfl, hB1⟩

set_option maxRecDepth 100000 in
set_option maxHeartbeats 3200000 in
theorem implActOk_any (K : Int) (nm : ByteArray) (a : Option Addr) (cap : Nat) (L : List X11) (N : Int) (un : ByteArray) (w : World) (hkd : nm.size ≤ maxLen) (hr : RdExpr w a L) (hs : ∀ x ∈ L, x.fits) (hm : L.length ≤ 1048580) (hun : un.size ≤ maxLen) :
    Calls Tryz.prog 58 #[.agg #[.int .i64 K, .string nm, .slice a L.length cap, .int .i64 N, .string un]] w fun e w' => e = .returned (.bool (actB K nm L N un)) ∧ Below w.heap.size w w' := by
  rcases k_cases K with rfl | rfl | rfl | rfl | rfl | rfl | ⟨k1, k2, k3, k4, k5, k6, h1, h2, h3, h4, h5, h6⟩
  · exact implActOk_1 nm a cap L N un w hkd hr hs hm hun
  · exact implActOk_2 nm a cap L N un w hkd hr hs hm hun
  · exact implActOk_3 nm a cap L N un w hkd hr hs hm hun
  · exact implActOk_4 nm a cap L N un w hkd hr hs hm hun
  · exact implActOk_5 nm a cap L N un w hkd hr hs hm hun
  · exact implActOk_6 nm a cap L N un w hkd hr hs hm hun
  · have b0 := below_al w (.cells #[.int .i64 K, .string nm, .slice a L.length cap, .int .i64 N, .string un] 77)
    have HC := hide (actB_no nm L N un h1 h2 h3 h4 h5 h6)
    clear h1 h2 h3 h4 h5 h6
    go_enter Tryz.func58, Tryz.ntmps58
    go_wp2
    go_ret
    exact ⟨by rw [HC.out]; rfl, b0⟩

end Go.Proofs.YtcfhpcbkdpgboaaGreat
