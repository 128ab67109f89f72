/-
  What the model's ActOk answers: actB.
-/
import Derived.Test.YtcfhpcbkdpgboaaGreatDoorJoined3
namespace Go.Proofs.YtcfhpcbkdpgboaaGreatDoor
open Go.RowKit
set_option linter.unusedVariables false

theorem namedX_spec (nm : ByteArray) (L : List X11) : namedX nm L = (nameB nm && (L.all X11.ok && decide (L.length ≤ 5))) := by unfold namedX; rw [Bool.and_assoc, Bool.and_comm (decide _)]
theorem nameB_empty : nameB ⟨#[]⟩ = false := by decide

set_option maxRecDepth 100000 in
set_option maxHeartbeats 3200000 in
theorem specActOk_1 (nm : ByteArray) (a : Option Addr) (cap : Nat) (L : List X11) (N : Int) (un : ByteArray) (w : World) (hkd : nm.size ≤ maxLen) (hr : RdExpr w a L) (hs : ∀ x ∈ L, x.fits) (hm : L.length ≤ 1048580) (hun : un.size ≤ maxLen) :
    Calls Tryz.prog 52 #[.agg #[.int .i64 1, .string nm, .slice a L.length cap, .int .i64 N, .string un]] w fun e w' => e = .returned (.bool (actB 1 nm L N un)) ∧ Below w.heap.size w w' := by
  have b0 := below_al w (.cells #[.int .i64 1, .string nm, .slice a L.length cap, .int .i64 N, .string un] 69)
  have hX := boxk_new w #[.int .i64 1, .string nm, .slice a L.length cap, .int .i64 N, .string un] 69
  have HC := hide (actB1 nm L N un)
  have HU := hide hun
  by_cases hn : nm.size = 0
  · obtain rfl := empty_of_size hn
    clear hn
    have H2 : Hid (actB 1 ⟨#[]⟩ L N un = false) := by unfold Hid; rw [HC.out, namedX_spec, nameB_empty]; rfl
    by_cases hl : L.length = 0
    · obtain rfl := List.eq_nil_of_length_eq_zero hl
      by_cases hU : un.size = 0
      · obtain rfl := empty_of_size hU
        go_enter Tryz.func52, Tryz.ntmps52
        go_wp2_with (go_at_call 20; refine (specNameOk_any _ _ (by decide)).mono ?_; rintro e w' ⟨rfl, rfl⟩; rw [nameB_empty])
        go_ret
        exact ⟨by rw [H2.out]; rfl, b0⟩
      · have hE := isEmpty_false hU
        clear hU
        go_enter Tryz.func52, Tryz.ntmps52
        go_wp2_with (go_at_call 20; refine (specNameOk_any _ _ (by decide)).mono ?_; rintro e w' ⟨rfl, rfl⟩; rw [nameB_empty])
        go_ret
        exact ⟨by rw [H2.out]; rfl, b0⟩
    · have k0 : ((L.length : Int) == 0) = false := by simpa using hl
      clear hl
      go_enter Tryz.func52, Tryz.ntmps52
      go_wp2_with (go_at_call 20; refine (specNameOk_any _ _ (by decide)).mono ?_; rintro e w' ⟨rfl, rfl⟩; rw [nameB_empty])
      go_ret
      exact ⟨by rw [H2.out]; rfl, b0⟩
  · have hE0 := isEmpty_false hn
    clear hn
    rw [namedX_spec] at HC
    cases hq : nameB nm
    · rw [hq] at HC
      go_enter Tryz.func52, Tryz.ntmps52
      go_wp2_with (go_at_call 20; refine (specNameOk_any _ _ hkd).mono ?_; rintro e w' ⟨rfl, rfl⟩; rw [hq])
      go_ret
      exact ⟨by rw [HC.out]; rfl, b0⟩
    · rw [hq] at HC
      go_enter Tryz.func52, Tryz.ntmps52
      go_wp2_with fail
      refine (specNameOk_any _ _ hkd).mono ?_
      rintro e w' ⟨rfl, rfl⟩
      rw [hq]
      go_wp2_with fail
      refine (l8Args_any a cap L _ (hr.below b0) hs hm).mono ?_
      rintro e w1 ⟨rfl, hb⟩
      have HX1 := hide (box_step hX hb)
      have hB1 : Below w.heap.size w w1 := b0.trans (hb.mono b0.size)
      have y3 := boxk_cell HX1.out 3 _ rfl
      have y4 := boxk_cell HX1.out 4 _ rfl
      clear hb b0 hX HX1 hq hr hs hkd hun hE0
      generalize (L.all X11.ok && decide (L.length ≤ 5)) = bb at HC ⊢
      cases bb
      · go_wp2
        go_ret
        exact ⟨by rw [HC.out]; rfl, hB1⟩
      · by_cases hN : N = 0
        · subst hN
          by_cases hU : un.size = 0
          · obtain rfl := empty_of_size hU
            have H2 : Hid (actB 1 nm L 0 ⟨#[]⟩ = true) := HC.out
            clear hU
            go_wp2
            go_ret
            exact ⟨by rw [H2.out]; rfl, hB1⟩
          · have H2 : Hid (actB 1 nm L 0 un = false) := by unfold Hid; rw [HC.out, decide_eq_false hU]; rfl
            have hE := isEmpty_false hU
            clear hU
            go_wp2
            go_ret
            exact ⟨by rw [H2.out]; rfl, hB1⟩
        · have H2 : Hid (actB 1 nm L N un = false) := by unfold Hid; rw [HC.out, decide_eq_false hN]; rfl
          have k0 : (N == 0) = false := by simpa using hN
          clear hN
          go_wp2
          go_ret
          exact ⟨by rw [H2.out]; rfl, hB1⟩

set_option maxRecDepth 100000 in
set_option maxHeartbeats 3200000 in
theorem specActOk_2 (nm : ByteArray) (a : Option Addr) (cap : Nat) (L : List X11) (N : Int) (un : ByteArray) (w : World) (hkd : nm.size ≤ maxLen) (hr : RdExpr w a L) (hs : ∀ x ∈ L, x.fits) (hm : L.length ≤ 1048580) (hun : un.size ≤ maxLen) :
    Calls Tryz.prog 52 #[.agg #[.int .i64 2, .string nm, .slice a L.length cap, .int .i64 N, .string un]] w fun e w' => e = .returned (.bool (actB 2 nm L N un)) ∧ Below w.heap.size w w' := by
  have b0 := below_al w (.cells #[.int .i64 2, .string nm, .slice a L.length cap, .int .i64 N, .string un] 69)
  have hX := boxk_new w #[.int .i64 2, .string nm, .slice a L.length cap, .int .i64 N, .string un] 69
  have HC := hide (actB2 nm L N un)
  have HU := hide hun
  by_cases hn : nm.size = 0
  · obtain rfl := empty_of_size hn
    clear hn
    by_cases hl : L.length = 0
    · obtain rfl := List.eq_nil_of_length_eq_zero hl
      by_cases hU : un.size = 0
      · obtain rfl := empty_of_size hU
        have H2 : Hid (actB 2 ⟨#[]⟩ [] N ⟨#[]⟩ = inB N 0 7) := by unfold Hid; rw [HC.out]; show (true && inB N 0 7 && true) = _; simp
        go_enter Tryz.func52, Tryz.ntmps52
        go_wp2_with fail
        refine (l1In_any _ _ _ _).mono ?_
        rintro e w1 ⟨rfl, rfl⟩
        generalize inB N 0 7 = ii at H2 ⊢
        go_wp2
        go_ret
        exact ⟨by rw [H2.out]; rfl, b0⟩
      · have H2 : Hid (actB 2 ⟨#[]⟩ [] N un = false) := by unfold Hid; rw [HC.out, decide_eq_false hU, Bool.and_false]
        have hE := isEmpty_false hU
        clear hU
        go_enter Tryz.func52, Tryz.ntmps52
        go_wp2
        go_ret
        exact ⟨by rw [H2.out]; rfl, b0⟩
    · have H2 : Hid (actB 2 ⟨#[]⟩ L N un = false) := by unfold Hid; rw [HC.out]; unfold bareX; rw [decide_eq_false hl, Bool.and_false, Bool.false_and, Bool.false_and]
      have k0 : ((L.length : Int) == 0) = false := by simpa using hl
      clear hl
      go_enter Tryz.func52, Tryz.ntmps52
      go_wp2
      go_ret
      exact ⟨by rw [H2.out]; rfl, b0⟩
  · have hE0 := isEmpty_false hn
    have H2 : Hid (actB 2 nm L N un = false) := by unfold Hid; rw [HC.out]; unfold bareX; rw [decide_eq_false hn, Bool.false_and, Bool.false_and, Bool.false_and]
    clear hn
    go_enter Tryz.func52, Tryz.ntmps52
    go_wp2
    go_ret
    exact ⟨by rw [H2.out]; rfl, b0⟩

set_option maxRecDepth 100000 in
set_option maxHeartbeats 3200000 in
theorem specActOk_3 (nm : ByteArray) (a : Option Addr) (cap : Nat) (L : List X11) (N : Int) (un : ByteArray) (w : World) (hkd : nm.size ≤ maxLen) (hr : RdExpr w a L) (hs : ∀ x ∈ L, x.fits) (hm : L.length ≤ 1048580) (hun : un.size ≤ maxLen) :
    Calls Tryz.prog 52 #[.agg #[.int .i64 3, .string nm, .slice a L.length cap, .int .i64 N, .string un]] w fun e w' => e = .returned (.bool (actB 3 nm L N un)) ∧ Below w.heap.size w w' := by
  have b0 := below_al w (.cells #[.int .i64 3, .string nm, .slice a L.length cap, .int .i64 N, .string un] 69)
  have hX := boxk_new w #[.int .i64 3, .string nm, .slice a L.length cap, .int .i64 N, .string un] 69
  have HC := hide (actB3 nm L N un)
  have HU := hide hun
  by_cases hn : nm.size = 0
  · obtain rfl := empty_of_size hn
    clear hn
    have H2 : Hid (actB 3 ⟨#[]⟩ L N un = false) := by unfold Hid; rw [HC.out, namedX_spec, nameB_empty]; rfl
    by_cases hl : L.length = 0
    · obtain rfl := List.eq_nil_of_length_eq_zero hl
      by_cases hU : un.size = 0
      · obtain rfl := empty_of_size hU
        go_enter Tryz.func52, Tryz.ntmps52
        go_wp2_with (go_at_call 20; refine (specNameOk_any _ _ (by decide)).mono ?_; rintro e w' ⟨rfl, rfl⟩; rw [nameB_empty])
        go_ret
        exact ⟨by rw [H2.out]; rfl, b0⟩
      · have hE := isEmpty_false hU
        clear hU
        go_enter Tryz.func52, Tryz.ntmps52
        go_wp2_with (go_at_call 20; refine (specNameOk_any _ _ (by decide)).mono ?_; rintro e w' ⟨rfl, rfl⟩; rw [nameB_empty])
        go_ret
        exact ⟨by rw [H2.out]; rfl, b0⟩
    · have k0 : ((L.length : Int) == 0) = false := by simpa using hl
      clear hl
      go_enter Tryz.func52, Tryz.ntmps52
      go_wp2_with (go_at_call 20; refine (specNameOk_any _ _ (by decide)).mono ?_; rintro e w' ⟨rfl, rfl⟩; rw [nameB_empty])
      go_ret
      exact ⟨by rw [H2.out]; rfl, b0⟩
  · have hE0 := isEmpty_false hn
    clear hn
    rw [namedX_spec] at HC
    cases hq : nameB nm
    · rw [hq] at HC
      go_enter Tryz.func52, Tryz.ntmps52
      go_wp2_with (go_at_call 20; refine (specNameOk_any _ _ hkd).mono ?_; rintro e w' ⟨rfl, rfl⟩; rw [hq])
      go_ret
      exact ⟨by rw [HC.out]; rfl, b0⟩
    · rw [hq] at HC
      go_enter Tryz.func52, Tryz.ntmps52
      go_wp2_with fail
      refine (specNameOk_any _ _ hkd).mono ?_
      rintro e w' ⟨rfl, rfl⟩
      rw [hq]
      go_wp2_with fail
      refine (l8Args_any a cap L _ (hr.below b0) hs hm).mono ?_
      rintro e w1 ⟨rfl, hb⟩
      have HX1 := hide (box_step hX hb)
      have hB1 : Below w.heap.size w w1 := b0.trans (hb.mono b0.size)
      have y3 := boxk_cell HX1.out 3 _ rfl
      have y4 := boxk_cell HX1.out 4 _ rfl
      clear hb b0 hX HX1 hq hr hs hkd hun hE0
      generalize (L.all X11.ok && decide (L.length ≤ 5)) = bb at HC ⊢
      cases bb
      · go_wp2
        go_ret
        exact ⟨by rw [HC.out]; rfl, hB1⟩
      · by_cases hN : N = 0
        · subst hN
          by_cases hU : un.size = 0
          · obtain rfl := empty_of_size hU
            have H2 : Hid (actB 3 nm L 0 ⟨#[]⟩ = true) := HC.out
            clear hU
            go_wp2
            go_ret
            exact ⟨by rw [H2.out]; rfl, hB1⟩
          · have H2 : Hid (actB 3 nm L 0 un = nameB un) := by unfold Hid; rw [HC.out, decide_eq_false hU]; rfl
            have hE := isEmpty_false hU
            clear hU
            go_wp2_with (go_at_call 20; refine (specNameOk_any _ _ HU.out).mono ?_; rintro e w' ⟨rfl, rfl⟩)
            go_ret
            exact ⟨by rw [H2.out]; rfl, hB1⟩
        · have H2 : Hid (actB 3 nm L N un = false) := by unfold Hid; rw [HC.out, decide_eq_false hN]; rfl
          have k0 : (N == 0) = false := by simpa using hN
          clear hN
          go_wp2
          go_ret
          exact ⟨by rw [H2.out]; rfl, hB1⟩

set_option maxRecDepth 100000 in
set_option maxHeartbeats 3200000 in
theorem specActOk_4 (nm : ByteArray) (a : Option Addr) (cap : Nat) (L : List X11) (N : Int) (un : ByteArray) (w : World) (hkd : nm.size ≤ maxLen) (hr : RdExpr w a L) (hs : ∀ x ∈ L, x.fits) (hm : L.length ≤ 1048580) (hun : un.size ≤ maxLen) :
    Calls Tryz.prog 52 #[.agg #[.int .i64 4, .string nm, .slice a L.length cap, .int .i64 N, .string un]] w fun e w' => e = .returned (.bool (actB 4 nm L N un)) ∧ Below w.heap.size w w' := by
  have b0 := below_al w (.cells #[.int .i64 4, .string nm, .slice a L.length cap, .int .i64 N, .string un] 69)
  have hX := boxk_new w #[.int .i64 4, .string nm, .slice a L.length cap, .int .i64 N, .string un] 69
  have HC := hide (actB4 nm L N un)
  have HU := hide hun
  by_cases hn : nm.size = 0
  · obtain rfl := empty_of_size hn
    clear hn
    have H2 : Hid (actB 4 ⟨#[]⟩ L N un = false) := by unfold Hid; rw [HC.out, namedX_spec, nameB_empty]; rfl
    by_cases hl : L.length = 0
    · obtain rfl := List.eq_nil_of_length_eq_zero hl
      by_cases hU : un.size = 0
      · obtain rfl := empty_of_size hU
        go_enter Tryz.func52, Tryz.ntmps52
        go_wp2_with (go_at_call 20; refine (specNameOk_any _ _ (by decide)).mono ?_; rintro e w' ⟨rfl, rfl⟩; rw [nameB_empty])
        go_ret
        exact ⟨by rw [H2.out]; rfl, b0⟩
      · have hE := isEmpty_false hU
        clear hU
        go_enter Tryz.func52, Tryz.ntmps52
        go_wp2_with (go_at_call 20; refine (specNameOk_any _ _ (by decide)).mono ?_; rintro e w' ⟨rfl, rfl⟩; rw [nameB_empty])
        go_ret
        exact ⟨by rw [H2.out]; rfl, b0⟩
    · have k0 : ((L.length : Int) == 0) = false := by simpa using hl
      clear hl
      go_enter Tryz.func52, Tryz.ntmps52
      go_wp2_with (go_at_call 20; refine (specNameOk_any _ _ (by decide)).mono ?_; rintro e w' ⟨rfl, rfl⟩; rw [nameB_empty])
      go_ret
      exact ⟨by rw [H2.out]; rfl, b0⟩
  · have hE0 := isEmpty_false hn
    clear hn
    rw [namedX_spec] at HC
    cases hq : nameB nm
    · rw [hq] at HC
      go_enter Tryz.func52, Tryz.ntmps52
      go_wp2_with (go_at_call 20; refine (specNameOk_any _ _ hkd).mono ?_; rintro e w' ⟨rfl, rfl⟩; rw [hq])
      go_ret
      exact ⟨by rw [HC.out]; rfl, b0⟩
    · rw [hq] at HC
      go_enter Tryz.func52, Tryz.ntmps52
      go_wp2_with fail
      refine (specNameOk_any _ _ hkd).mono ?_
      rintro e w' ⟨rfl, rfl⟩
      rw [hq]
      go_wp2_with fail
      refine (l8Args_any a cap L _ (hr.below b0) hs hm).mono ?_
      rintro e w1 ⟨rfl, hb⟩
      have HX1 := hide (box_step hX hb)
      have hB1 : Below w.heap.size w w1 := b0.trans (hb.mono b0.size)
      have y3 := boxk_cell HX1.out 3 _ rfl
      have y4 := boxk_cell HX1.out 4 _ rfl
      clear hb b0 hX HX1 hq hr hs hkd hun hE0
      generalize (L.all X11.ok && decide (L.length ≤ 5)) = bb at HC ⊢
      cases bb
      · go_wp2
        go_ret
        exact ⟨by rw [HC.out]; rfl, hB1⟩
      · cases hI : inB N 0 100000
        · have H2 : Hid (actB 4 nm L N un = false) := by unfold Hid; rw [HC.out, hI]; rfl
          go_wp2_with (go_at_call 21; refine (l1In_any _ _ _ _).mono ?_; rintro e w' ⟨rfl, rfl⟩; rw [hI])
          go_ret
          exact ⟨by rw [H2.out]; rfl, hB1⟩
        · rw [hI] at HC
          by_cases hU : un.size = 0
          · obtain rfl := empty_of_size hU
            have H2 : Hid (actB 4 nm L N ⟨#[]⟩ = true) := HC.out
            clear hU
            go_wp2_with (go_at_call 21; refine (l1In_any _ _ _ _).mono ?_; rintro e w' ⟨rfl, rfl⟩; rw [hI])
            go_ret
            exact ⟨by rw [H2.out]; rfl, hB1⟩
          · have H2 : Hid (actB 4 nm L N un = false) := by unfold Hid; rw [HC.out, decide_eq_false hU]; rfl
            have hE := isEmpty_false hU
            clear hU
            go_wp2_with (go_at_call 21; refine (l1In_any _ _ _ _).mono ?_; rintro e w' ⟨rfl, rfl⟩; rw [hI])
            go_ret
            exact ⟨by rw [H2.out]; rfl, hB1⟩

set_option maxRecDepth 100000 in
set_option maxHeartbeats 3200000 in
theorem specActOk_5 (nm : ByteArray) (a : Option Addr) (cap : Nat) (L : List X11) (N : Int) (un : ByteArray) (w : World) (hkd : nm.size ≤ maxLen) (hr : RdExpr w a L) (hs : ∀ x ∈ L, x.fits) (hm : L.length ≤ 1048580) (hun : un.size ≤ maxLen) :
    Calls Tryz.prog 52 #[.agg #[.int .i64 5, .string nm, .slice a L.length cap, .int .i64 N, .string un]] w fun e w' => e = .returned (.bool (actB 5 nm L N un)) ∧ Below w.heap.size w w' := by
  have b0 := below_al w (.cells #[.int .i64 5, .string nm, .slice a L.length cap, .int .i64 N, .string un] 69)
  have hX := boxk_new w #[.int .i64 5, .string nm, .slice a L.length cap, .int .i64 N, .string un] 69
  have HC := hide (actB5 nm L N un)
  have HU := hide hun
  by_cases hn : nm.size = 0
  · obtain rfl := empty_of_size hn
    clear hn
    by_cases hl : L.length = 0
    · obtain rfl := List.eq_nil_of_length_eq_zero hl
      by_cases hU : un.size = 0
      · obtain rfl := empty_of_size hU
        by_cases hN : N = 0
        · subst hN
          have H2 : Hid (actB 5 ⟨#[]⟩ [] 0 ⟨#[]⟩ = true) := HC.out
          go_enter Tryz.func52, Tryz.ntmps52
          go_wp2
          go_ret
          exact ⟨by rw [H2.out]; rfl, b0⟩
        · have H2 : Hid (actB 5 ⟨#[]⟩ [] N ⟨#[]⟩ = false) := by unfold Hid; rw [HC.out, decide_eq_false hN]; rfl
          have k0 : (N == 0) = false := by simpa using hN
          clear hN
          go_enter Tryz.func52, Tryz.ntmps52
          go_wp2
          go_ret
          exact ⟨by rw [H2.out]; rfl, b0⟩
      · have H2 : Hid (actB 5 ⟨#[]⟩ [] N un = false) := by unfold Hid; rw [HC.out, decide_eq_false hU, Bool.and_false]
        have hE := isEmpty_false hU
        clear hU
        go_enter Tryz.func52, Tryz.ntmps52
        go_wp2
        go_ret
        exact ⟨by rw [H2.out]; rfl, b0⟩
    · have H2 : Hid (actB 5 ⟨#[]⟩ L N un = false) := by unfold Hid; rw [HC.out]; unfold bareX; rw [decide_eq_false hl, Bool.and_false, Bool.false_and, Bool.false_and]
      have k0 : ((L.length : Int) == 0) = false := by simpa using hl
      clear hl
      go_enter Tryz.func52, Tryz.ntmps52
      go_wp2
      go_ret
      exact ⟨by rw [H2.out]; rfl, b0⟩
  · have hE0 := isEmpty_false hn
    have H2 : Hid (actB 5 nm L N un = false) := by unfold Hid; rw [HC.out]; unfold bareX; rw [decide_eq_false hn, Bool.false_and, Bool.false_and, Bool.false_and]
    clear hn
    go_enter Tryz.func52, Tryz.ntmps52
    go_wp2
    go_ret
    exact ⟨by rw [H2.out]; rfl, b0⟩

set_option maxRecDepth 100000 in
set_option maxHeartbeats 3200000 in
theorem specActOk_6 (nm : ByteArray) (a : Option Addr) (cap : Nat) (L : List X11) (N : Int) (un : ByteArray) (w : World) (hkd : nm.size ≤ maxLen) (hr : RdExpr w a L) (hs : ∀ x ∈ L, x.fits) (hm : L.length ≤ 1048580) (hun : un.size ≤ maxLen) :
    Calls Tryz.prog 52 #[.agg #[.int .i64 6, .string nm, .slice a L.length cap, .int .i64 N, .string un]] w fun e w' => e = .returned (.bool (actB 6 nm L N un)) ∧ Below w.heap.size w w' := by
  have b0 := below_al w (.cells #[.int .i64 6, .string nm, .slice a L.length cap, .int .i64 N, .string un] 69)
  have hX := boxk_new w #[.int .i64 6, .string nm, .slice a L.length cap, .int .i64 N, .string un] 69
  have HC := hide (actB6 nm L N un)
  have HU := hide hun
  by_cases hn : nm.size = 0
  · obtain rfl := empty_of_size hn
    clear hn
    by_cases hl : L.length = 0
    · obtain rfl := List.eq_nil_of_length_eq_zero hl
      by_cases hU : un.size = 0
      · obtain rfl := empty_of_size hU
        by_cases hN : N = 0
        · subst hN
          have H2 : Hid (actB 6 ⟨#[]⟩ [] 0 ⟨#[]⟩ = true) := HC.out
          go_enter Tryz.func52, Tryz.ntmps52
          go_wp2
          go_ret
          exact ⟨by rw [H2.out]; rfl, b0⟩
        · have H2 : Hid (actB 6 ⟨#[]⟩ [] N ⟨#[]⟩ = false) := by unfold Hid; rw [HC.out, decide_eq_false hN]; rfl
          have k0 : (N == 0) = false := by simpa using hN
          clear hN
          go_enter Tryz.func52, Tryz.ntmps52
          go_wp2
          go_ret
          exact ⟨by rw [H2.out]; rfl, b0⟩
      · have H2 : Hid (actB 6 ⟨#[]⟩ [] N un = false) := by unfold Hid; rw [HC.out, decide_eq_false hU, Bool.and_false]
        have hE := isEmpty_false hU
        clear hU
        go_enter Tryz.func52, Tryz.ntmps52
        go_wp2
        go_ret
        exact ⟨by rw [H2.out]; rfl, b0⟩
    · have H2 : Hid (actB 6 ⟨#[]⟩ L N un = false) := by unfold Hid; rw [HC.out]; unfold bareX; rw [decide_eq_false hl, Bool.and_false, Bool.false_and, Bool.false_and]
      have k0 : ((L.length : Int) == 0) = false := by simpa using hl
      clear hl
      go_enter Tryz.func52, Tryz.ntmps52
      go_wp2
      go_ret
      exact ⟨by rw [H2.out]; rfl, b0⟩
  · have hE0 := isEmpty_false hn
    have H2 : Hid (actB 6 nm L N un = false) := by unfold Hid; rw [HC.out]; unfold bareX; rw [decide_eq_false hn, Bool.false_and, Bool.false_and, Bool.false_and]
    clear hn
    go_enter Tryz.func52, Tryz.ntmps52
    go_wp2
    go_ret
    exact ⟨by rw [H2.out]; rfl, b0⟩

set_option maxRecDepth 100000 in
set_option maxHeartbeats 3200000 in
theorem specActOk_any (K : Int) (nm : ByteArray) (a : Option Addr) (cap : Nat) (L : List X11) (N : Int) (un : ByteArray) (w : World) (hkd : nm.size ≤ maxLen) (hr : RdExpr w a L) (hs : ∀ x ∈ L, x.fits) (hm : L.length ≤ 1048580) (hun : un.size ≤ maxLen) :
    Calls Tryz.prog 52 #[.agg #[.int .i64 K, .string nm, .slice a L.length cap, .int .i64 N, .string un]] w fun e w' => e = .returned (.bool (actB K nm L N un)) ∧ Below w.heap.size w w' := by
  rcases k_cases K with rfl | rfl | rfl | rfl | rfl | rfl | ⟨k1, k2, k3, k4, k5, k6, h1, h2, h3, h4, h5, h6⟩
  · exact specActOk_1 nm a cap L N un w hkd hr hs hm hun
  · exact specActOk_2 nm a cap L N un w hkd hr hs hm hun
  · exact specActOk_3 nm a cap L N un w hkd hr hs hm hun
  · exact specActOk_4 nm a cap L N un w hkd hr hs hm hun
  · exact specActOk_5 nm a cap L N un w hkd hr hs hm hun
  · exact specActOk_6 nm a cap L N un w hkd hr hs hm hun
  · have b0 := below_al w (.cells #[.int .i64 K, .string nm, .slice a L.length cap, .int .i64 N, .string un] 69)
    have HC := hide (actB_no nm L N un h1 h2 h3 h4 h5 h6)
    clear h1 h2 h3 h4 h5 h6
    by_cases hn : nm.size = 0
    · obtain rfl := empty_of_size hn
      by_cases hl : L.length = 0
      · obtain rfl := List.eq_nil_of_length_eq_zero hl
        by_cases hU : un.size = 0
        · obtain rfl := empty_of_size hU
          go_enter Tryz.func52, Tryz.ntmps52
          go_wp2
          go_ret
          exact ⟨by rw [HC.out]; rfl, b0⟩
        · have hE := isEmpty_false hU
          go_enter Tryz.func52, Tryz.ntmps52
          go_wp2
          go_ret
          exact ⟨by rw [HC.out]; rfl, b0⟩
      · have k0 : ((L.length : Int) == 0) = false := by simpa using hl
        clear hl
        go_enter Tryz.func52, Tryz.ntmps52
        go_wp2
        go_ret
        exact ⟨by rw [HC.out]; rfl, b0⟩
    · have hE := isEmpty_false hn
      go_enter Tryz.func52, Tryz.ntmps52
      go_wp2
      go_ret
      exact ⟨by rw [HC.out]; rfl, b0⟩

end Go.Proofs.YtcfhpcbkdpgboaaGreatDoor
