/-
  Proved: for every row of bytes, the law on the order of matches answers true (of two drawn matches that are not the same just one is less, of two that are the same none, and the order is the model's), and the row reads as it did. No condition.
-/
import Derived.Test.YtfgigcdfmkfkjaaDrawMb
import Derived.Test.YtfgigcdfmkfkjaaCmpMI
import Derived.Test.YtfgigcdfmkfkjaaCmpMS
import Derived.Test.YtfgigcdfmkfkjaaRows
import Derived.ProofKit
import Derived.OpenShut
import Derived.ShutString
import Derived.ChangeOld
import Derived.Below
import Derived.Laws.StructEq
namespace Go.Proofs.Ytfgigcdfmkfkjaa.LawMOrd
open Go.ChangeShapes Go.WideShapes Go.ChangeAt Go.RowKit
open Go.ChangeMaps (open_string shut_string)
set_option linter.unusedVariables false

theorem compareInt_anti (x y : Int) : Lib.compareInt y x = - Lib.compareInt x y := by
  unfold Lib.compareInt
  repeat' split
  all_goals omega
theorem cmpL_anti : ∀ (a b : List Int), cmpL b a = - cmpL a b
  | [], [] => rfl
  | [], _ :: _ => rfl
  | _ :: _, [] => rfl
  | x :: a, y :: b => by
    rw [cmpL, cmpL]
    have := cmpL_anti a b
    repeat' split
    all_goals omega
theorem cmpP_anti (p q : Int × List Int × List B4) : cmpP q p = - cmpP p q := by
  by_cases h : p.1 = q.1
  · by_cases hl : p.2.1.length = q.2.1.length
    · rw [cmpP_ids h hl, cmpP_ids h.symm hl.symm, cmpL_anti]
    · rw [cmpP_len h hl, cmpP_len h.symm (fun e => hl e.symm), compareInt_anti]
  · rw [cmpP_rule h, cmpP_rule (fun e => h e.symm), compareInt_anti]

set_option maxHeartbeats 400000 in
theorem big_any (a : Option Addr) (len cap : Nat) (w : World) (h : len ≤ 9223372036854775807) :
    Calls Try.prog 36 #[.slice a len cap] w fun e w' => e = .returned (.bool (decide ((1048576 : Int) < (len : Int)))) ∧ w' = w := by
  go_enter Try.func36, Try.ntmps36
  go_wp2
  go_ret
  exact ⟨rfl, rfl⟩

/-- two matches in memory, and all that was there at the head -/
structure Duo (w0 : World) (X Y : Nat) (x y : ME) (W : World) : Prop where
  bX : W.heap[X]? = some (.cells #[.int .i64 x.r, .slice x.aI x.nI x.cI, .slice x.aB x.nB x.cB] 30 (0, 0))
  bY : W.heap[Y]? = some (.cells #[.int .i64 y.r, .slice y.aI y.nI y.cI, .slice y.aB y.nB y.cB] 30 (0, 0))
  r1 : RdMatch W x
  r2 : RdMatch W y
  bel : Below w0.heap.size w0 W
theorem Duo.keep {w0 W W' : World} {X Y : Nat} {x y : ME} (h : Duo w0 X Y x y W) (hb : Below W.heap.size W W') : Duo w0 X Y x y W' :=
  ⟨box_step h.bX hb, box_step h.bY hb, h.r1.below hb, h.r2.below hb, h.bel.trans (hb.mono h.bel.size)⟩

set_option maxRecDepth 100000 in
set_option maxHeartbeats 3200000 in
theorem law (a : Option Addr) (cap : Nat) (code : List UInt8) (w : World) (hr : Rd w a code) (hm : code.length ≤ maxLen) :
    Calls Try.prog 7 #[.slice a code.length cap] w fun e w' => e = .returned (.bool true) ∧ Below w.heap.size w w' := by
  unfold maxLen at hm
  by_cases hb : 1048576 < code.length
  · have hd : decide ((1048576 : Int) < (code.length : Int)) = true := by simp; omega
    go_enter Try.func7, Try.ntmps7
    go_wp2_with (go_at_call 36; refine (big_any _ _ _ _ (by omega)).mono ?_; rintro e w' ⟨rfl, rfl⟩)
    go_ret
    exact ⟨rfl, Below.refl _ _⟩
  · have hd : decide ((1048576 : Int) < (code.length : Int)) = false := by simp; omega
    go_enter Try.func7, Try.ntmps7
    go_wp2_with fail
    refine (big_any _ _ _ _ (by omega)).mono ?_
    rintro e w' ⟨rfl, rfl⟩
    go_wp2_with fail
    refine (drawLessMatch_any a cap code w' hr (by omega)).mono ?_
    rintro e w1 ⟨r, aI, nI, cI, zs, r', aJ, nJ, cJ, ys, rfl, l1, l2, l3, l4, o1, o2, B1⟩
    clear hd
    obtain ⟨x, hx⟩ : ∃ x : ME, Hid ((⟨r, aI, nI, cI, zs, none, 0, 0, []⟩ : ME) = x) := ⟨_, rfl⟩
    obtain ⟨y, hy⟩ : ∃ y : ME, Hid ((⟨r', aJ, nJ, cJ, ys, none, 0, 0, []⟩ : ME) = y) := ⟨_, rfl⟩
    have ex0 : r = x.r := by rw [← hx.out]
    have ex1 : aI = x.aI := by rw [← hx.out]
    have ex2 : nI = x.nI := by rw [← hx.out]
    have ex3 : cI = x.cI := by rw [← hx.out]
    have ex4 : (Value.slice none 0 0) = .slice x.aB x.nB x.cB := by rw [← hx.out]
    have ey0 : r' = y.r := by rw [← hy.out]
    have ey1 : aJ = y.aI := by rw [← hy.out]
    have ey2 : nJ = y.nI := by rw [← hy.out]
    have ey3 : cJ = y.cI := by rw [← hy.out]
    have ey4 : (Value.slice none 0 0) = .slice y.aB y.nB y.cB := by rw [← hy.out]
    have rx : RdMatch w1 x := by rw [← hx.out]; exact ⟨rdN_of o1, l1, RdK.nil _ _ _ _, rfl⟩
    have ry : RdMatch w1 y := by rw [← hy.out]; exact ⟨rdN_of o2, l3, RdK.nil _ _ _ _, rfl⟩
    have hlx : x.nI ≤ 1048580 := by omega
    have hly : y.nI ≤ 1048580 := by omega
    rw [show (Value.agg #[.int .i64 r, .slice aI nI cI, .slice none 0 0]) = .agg #[.int .i64 x.r, .slice x.aI x.nI x.cI, .slice x.aB x.nB x.cB] by rw [← ex4, ← ex0, ← ex1, ← ex2, ← ex3],
      show (Value.agg #[.int .i64 r', .slice aJ nJ cJ, .slice none 0 0]) = .agg #[.int .i64 y.r, .slice y.aI y.nI y.cI, .slice y.aB y.nB y.cB] by rw [← ey4, ← ey0, ← ey1, ← ey2, ← ey3]]
    clear ex0 ex1 ex2 ex3 ex4 ey0 ey1 ey2 ey3 ey4 o1 o2 l1 l2 l3 l4 hx hy
    obtain ⟨hA, hB, b2⟩ := boxes2 w1 #[.int .i64 x.r, .slice x.aI x.nI x.cI, .slice x.aB x.nB x.cB] #[.int .i64 y.r, .slice y.aI y.nI y.cI, .slice y.aB y.nB y.cB] 30 30
    have T2 : Duo w' w1.heap.size (w1.heap.size + 1) x y ((w1.alloc (.cells #[.int .i64 x.r, .slice x.aI x.nI x.cI, .slice x.aB x.nB x.cB] 30)).alloc (.cells #[.int .i64 y.r, .slice y.aI y.nI y.cI, .slice y.aB y.nB y.cB] 30)) := ⟨hA, hB, rx.below b2, ry.below b2, B1.trans (b2.mono B1.size)⟩
    clear hA hB b2 rx ry B1
    obtain ⟨x0, x1, x2, -, -, -⟩ := box_cell T2.bX
    obtain ⟨y0, y1, y2, -, -, -⟩ := box_cell T2.bY
    go_wp2_with fail
    generalize (w1.alloc (.cells #[.int .i64 x.r, .slice x.aI x.nI x.cI, .slice x.aB x.nB x.cB] 30)).alloc (.cells #[.int .i64 y.r, .slice y.aI y.nI y.cI, .slice y.aB y.nB y.cB] 30) = w2 at T2 x0 x1 x2 y0 y1 y2 ⊢
    refine (implLessMatch_any x y _ T2.r1 T2.r2 hlx hly).mono ?_
    rintro e w3 ⟨⟨t, rfl, ht⟩, hb3⟩
    have T3 := T2.keep hb3
    clear hb3 T2 x0 x1 x2 y0 y1 y2
    obtain ⟨x0, x1, x2, -, -, -⟩ := box_cell T3.bX
    obtain ⟨y0, y1, y2, -, -, -⟩ := box_cell T3.bY
    go_wp2_with fail
    refine (implLessMatch_any y x _ T3.r2 T3.r1 hly hlx).mono ?_
    rintro e w4 ⟨⟨t', rfl, ht'⟩, hb4⟩
    have T4 := T3.keep hb4
    clear hb4 T3 x0 x1 x2 y0 y1 y2
    have HT : Hid (t' = decide (0 < cmpP x.pl y.pl)) := by
      unfold Hid; rw [ht'.out, cmpP_anti, decide_eq_decide]; omega
    clear ht'
    obtain ⟨x0, x1, x2, -, -, -⟩ := box_cell T4.bX
    obtain ⟨y0, y1, y2, -, -, -⟩ := box_cell T4.bY
    have HS := hide (implSameMatch_any x y w4 T4.r1 T4.r2 hlx hly)
    have HM : Hid (∀ W, Below w4.heap.size w4 W → Calls Try.prog 14 #[.agg #[.int .i64 x.r, .slice x.aI x.nI x.cI, .slice x.aB x.nB x.cB], .agg #[.int .i64 y.r, .slice y.aI y.nI y.cI, .slice y.aB y.nB y.cB]] W fun e w' => (∃ t, e = .returned (.bool t) ∧ Hid (t = decide (cmpP x.pl y.pl < 0))) ∧ Below W.heap.size W w') :=
      fun W hW => specLessMatch_any x y W (T4.r1.below hW) (T4.r2.below hW) hlx hly
    have cases3 : cmpP x.pl y.pl < 0 ∨ cmpP x.pl y.pl = 0 ∨ 0 < cmpP x.pl y.pl := by omega
    generalize cmpP x.pl y.pl = c at ht HT HS HM cases3
    have HC : Hid ((t = true ∧ t' = false ∧ decide (c = 0) = false ∧ decide (c < 0) = true) ∨ (t = false ∧ t' = false ∧ decide (c = 0) = true ∧ decide (c < 0) = false) ∨ (t = false ∧ t' = true ∧ decide (c = 0) = false ∧ decide (c < 0) = false)) := by
      unfold Hid
      rw [ht.out, HT.out]
      rcases cases3 with h | h | h
      · left; simp; omega
      · right; left; simp; omega
      · right; right; simp; omega
    clear ht HT cases3
    obtain ⟨s, hs⟩ : ∃ s, Hid (decide (c = 0) = s) := ⟨_, rfl⟩
    obtain ⟨l, hl⟩ : ∃ l, Hid (decide (c < 0) = l) := ⟨_, rfl⟩
    rw [hs.out] at HS
    rw [hl.out] at HM
    rw [hs.out, hl.out] at HC
    clear hs hl
    rcases HC.out with ⟨rfl, rfl, rfl, rfl⟩ | ⟨rfl, rfl, rfl, rfl⟩ | ⟨rfl, rfl, rfl, rfl⟩
    all_goals
      clear HC
      go_wp2_with fail
      refine HS.out.mono ?_
      rintro e w5 ⟨⟨s, rfl, hs⟩, hb5⟩
      obtain rfl := hs.out
      have T5 := T4.keep hb5
      have HM5 := hide (HM.out w5 hb5)
      clear T4 hb5 HM HS x0 x1 x2 y0 y1 y2 hs
      obtain ⟨x0, x1, x2, -, -, -⟩ := box_cell T5.bX
      obtain ⟨y0, y1, y2, -, -, -⟩ := box_cell T5.bY
      go_wp2_with fail
      refine HM5.out.mono ?_
      rintro e w6 ⟨⟨l, rfl, hl⟩, hb6⟩
      obtain rfl := hl.out
      have T6 := T5.keep hb6
      clear T5 hb6 HM5 hl x0 x1 x2 y0 y1 y2
      go_wp2
      go_ret
      exact ⟨rfl, T6.bel⟩

theorem walk (a0 : Option Addr) (len0 cap0 : Nat) (z0 : List Int) (w : World) (w0 : IsRow .u8 w a0 len0 cap0 z0) :
    Calls Try.prog 7 #[.slice a0 len0 cap0] w fun e w' => e = .returned (.bool true) ∧ Below w.heap.size w w' := by
  obtain ⟨bs, hl, hr⟩ := rd_row w0
  have hm : len0 ≤ maxLen := isRow_len w0
  subst hl
  exact law a0 cap0 bs w hr hm

theorem own : ownKnob Try.prog.godebug = none := by kernel_rfl
theorem laidOut : laidOutB Try.prog = true := by kernel_rfl

set_option maxRecDepth 100000 in
theorem lifted (os : Os) (started : os.Started) (H : Type) (enc : TypeId × Value → H) :
    ReturnsInHanded {} Try.checked os 7 .any (Rows.fnMatchOrderSpec.pre6 enc Try.prog Try.f7 Rows.fnMatchOrderRow.domain false) (Rows.fnMatchOrderSpec.post enc Try.prog Try.f7 false true false false) := by
  refine returnsInHanded_of_change (C := Try.checked) own started (by kernel_rfl) Try.func7
    (ChangeSpec.witness6 (enc := enc) (C := Try.checked) false ⟨#[], #[.slice none 0 0], []⟩ 8 (by kernel_rfl) (by kernel_rfl) (by kernel_rfl) (by kernel_rfl)) ?_
  intro W base args ds gs before hval0 hW hcnd _
  have hval : ∀ (j : Nat) t v, Try.f7.params[j]? = some t → args[j]? = some v → Value.okWide Try.prog W .any base t v := hval0
  have hW' := hW
  obtain ⟨p, q, hA0, hV, rfl, hfz, hnd⟩ := hW
  have hA : DataW.TrodAll enc Try.prog W 0 (fun _ => true) true Try.f7.params.toList args.toList ds p := hA0
  rw [Try.params7] at hA hval
  obtain ⟨v0, vs0, d0, ds0, p0, q0, hargs, rfl, rfl, h0, r0⟩ := trodAll_cons hA
  obtain ⟨rfl, rfl, rfl⟩ := trodAll_nil r0
  obtain rfl : args = #[v0] := by cases args; simp_all
  obtain ⟨rfl, rfl⟩ := trodVars_none hV
  obtain ⟨a0, len0, cap0, rfl⟩ := okWide_slice Try.underlying69 (hval 0 69 v0 rfl rfl)
  have k0 := h0
  have lt0 : ∀ x ∈ p0, x.block < W.heap.size := by obtain ⟨m, hm⟩ := k0; exact DataW.trod_lt m _ _ _ hm
  obtain ⟨z0, w0⟩ : ∃ zs, IsRow .u8 W a0 len0 cap0 zs := by
    obtain ⟨fuel, hf⟩ := h0
    rcases open_ints Try.underlying69 Try.underlying5 (by kernel_rfl) hf with ⟨hcs, _⟩ | ⟨x, l, c, zs, hcs, _, hl, hm, hz, _, hcell, hwz⟩
    · simp [Value.cells] at hcs
      obtain ⟨rfl, rfl, rfl⟩ := hcs
      exact ⟨[], .inl ⟨rfl, rfl, rfl, rfl⟩⟩
    · simp [Value.cells] at hcs
      obtain ⟨rfl, rfl, rfl⟩ := hcs
      exact ⟨zs, .inr ⟨_, rfl, hl, hm, by simpa using hz, hcell, hwz⟩⟩
  clear hA0 hval0
  refine (walk a0 len0 cap0 z0 W w0).mono fun e W' ⟨he, bel⟩ => ?_
  subst he
  exact ⟨_, rfl, _, _, _, [], _, [], hW', trodAll_mk1 (shut_bool Try.underlying4 _), (trodAll_cons_mk (Below.trod laidOut (by kernel_rfl) (of_decide_eq_true (by kernel_rfl)) k0 bel lt0) trodAll_mk0), rfl, bel.frame _, fun h => by cases h⟩

theorem over : Rows.fnMatchOrderRow.holds Try.pinned (OpenSpec.ofChange Rows.fnMatchOrderSpec) :=
  OpenClaim.holds_of_wide 7 Try.f7 rfl rfl rfl rfl rfl rfl rfl ⟨rfl, rfl, rfl, rfl, rfl⟩ rfl rfl rfl rfl rfl (by kernel_rfl) Try.func7 (by kernel_rfl)
    (of_decide_eq_true (by kernel_rfl)) (by unfold Func.isWrapper; first | (rw [if_pos (by decide +kernel)]; kernel_rfl) | (rw [if_neg (by decide +kernel)]; exact ⟨rfl, rfl⟩))
    (fun os started H enc _ => lifted os started H enc)
end Go.Proofs.Ytfgigcdfmkfkjaa.LawMOrd
namespace Go.Proofs.Ytfgigcdfmkfkjaa
theorem fnMatchOrder_holds : Rows.FnMatchOrderSaid := LawMOrd.over
#print axioms fnMatchOrder_holds
end Go.Proofs.Ytfgigcdfmkfkjaa
