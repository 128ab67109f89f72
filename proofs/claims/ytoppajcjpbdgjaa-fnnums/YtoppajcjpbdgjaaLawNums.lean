/-
  Proved: for every row of bytes, the law on numbers and texts answers true (a drawn number, or the nearest that is kept, comes back of its bytes, cut it does not; so a drawn text), and the row reads as it did. No condition.
-/
import Derived.Test.YtoppajcjpbdgjaaDrawN
import Derived.Test.YtoppajcjpbdgjaaDec
import Derived.Test.YtoppajcjpbdgjaaOwnD
import Derived.Test.YtoppajcjpbdgjaaGetTextI
import Derived.Test.YtoppajcjpbdgjaaPutTextI
import Derived.ProofKit
import Derived.OpenShut
import Derived.ShutString
import Derived.ChangeOld
import Derived.Below
namespace Go.Proofs.Ytoppajcjpbdgjaa.LawNums
open Go.ChangeShapes Go.WideShapes Go.ChangeAt Go.RowKit
open Go.ChangeMaps (open_string shut_string)
set_option linter.unusedVariables false

set_option maxHeartbeats 400000 in
theorem big_any (a : Option Addr) (len cap : Nat) (w : World) (h : len ≤ 9223372036854775807) :
    Calls Try.prog 7 #[.slice a len cap] w fun e w' => e = .returned (.bool (decide ((1048576 : Int) < (len : Int)))) ∧ w' = w := by
  go_enter Try.func7, Try.ntmps7
  go_wp2
  go_ret
  exact ⟨rfl, rfl⟩

theorem owns_own' {w : World} {base n : Nat} {v : Value} {bs : List UInt8} (h : w.ownsRow base 5 1 v n (vals bs)) (hp : v ≠ .slice none 0 0) :
    ∃ g cap, v = .slice (some ⟨g, 0, none⟩) bs.length cap ∧ base ≤ g ∧ Own w g cap bs := by
  have hn : n = bs.length := by have := h.1; rw [vals_length] at this; omega
  subst hn
  rcases h.2 with ⟨h1, h0⟩ | ⟨g, cap, cur, rfl, hb, rest⟩
  · exact absurd h1 hp
  · exact ⟨g, cap, rfl, hb, owns_zero h⟩
theorem below_none {w w' : World} (h : w.grownBy w' none) : Below w.heap.size w w' := (Below.refl _ _).grown h (Nat.le_refl _) (fun k hk => by cases hk)
theorem num_back1 (bs : List UInt8) (n : Int) : numR (bs ++ encN n) (bs.length : Int) = (clampN n, ((bs ++ encN n).length : Int), true) := by
  have := num_back bs [] n
  rw [List.append_nil] at this
  exact this

theorem Rd.take {w : World} {a : Option Addr} {bs : List UInt8} (h : Rd w a bs) (k : Nat) : Rd w a (bs.take k) := by
  intro i hi
  simp at hi
  obtain ⟨b, off, e, hc⟩ := h i (by omega)
  refine ⟨b, off, e, ?_⟩
  rw [hc]
  unfold byteAt
  simp [List.getD, show i < k by omega]

set_option maxRecDepth 100000 in
set_option maxHeartbeats 3200000 in
theorem law (a : Option Addr) (cap : Nat) (code : List UInt8) (w : World) (hr : Rd w a code) (hm : code.length ≤ maxLen) :
    Calls Try.prog 3 #[.slice a code.length cap] w fun e w' => e = .returned (.bool true) ∧ Below w.heap.size w w' := by
  unfold maxLen at hm
  by_cases hb : 1048576 < code.length
  · have hd : decide ((1048576 : Int) < (code.length : Int)) = true := by simp; omega
    go_enter Try.func3, Try.ntmps3
    go_wp2_with (go_at_call 7; refine (big_any _ _ _ _ (by omega)).mono ?_; rintro e w' ⟨rfl, rfl⟩)
    go_ret
    exact ⟨rfl, Below.refl _ _⟩
  · have hd : decide ((1048576 : Int) < (code.length : Int)) = false := by simp; omega
    go_enter Try.func3, Try.ntmps3
    go_wp2_with fail
    refine (big_any _ _ _ _ (by omega)).mono ?_
    rintro e w' ⟨rfl, rfl⟩
    go_wp2_with fail
    refine (drawPutNum_any a cap code w' hr (by omega)).mono ?_
    rintro e w1 ⟨v1, bs, n, rfl, hl, ho, hv, g1⟩
    obtain ⟨q1, c1, rfl, hq1, o1⟩ := owns_own' ho hv
    have B1 := below_none g1
    clear ho hv g1 hd
    obtain ⟨E, HE⟩ : ∃ E, Hid (bs ++ encN n = E) := ⟨_, rfl⟩
    have hE : E.length ≤ 15 := by rw [← HE.out]; have := encN_length n; simp; omega
    have hE1 : 1 ≤ E.length := by rw [← HE.out]; have := encN_pos n; simp; omega
    have HB := hide (num_back1 bs n)
    have HC := hide (num_cut bs n)
    have HP : Hid (∀ a cap w, Rd w a bs → bs.length ≤ 4194304 → _) := fun a cap w hr hn => implPutNum_any a cap n bs w hr hn
    rw [HE.out] at HB HC HP
    go_wp2_with fail
    refine (HP.out _ _ _ o1.rd (by omega)).mono ?_
    rintro e w2 ⟨v2, rfl, ho2, b2⟩
    obtain ⟨q2, c2, rfl, hq2, o2⟩ := owns_own ho2 (by omega)
    have B2 : Below w'.heap.size w' w2 := B1.trans (b2.mono B1.size)
    clear ho2 o1
    go_wp2_with fail
    refine (implGetNum_any _ c2 bs.length E w2 o2.rd (by omega) o2.cap (by simp)).mono ?_
    rw [HB.out]
    rintro e w3 ⟨rfl, rfl⟩
    have hcap2 := o2.cap
    have HT := implGetNum_any (some ⟨q2, 0, none⟩) c2 bs.length (E.take (E.length - 1)) w3 (Rd.take o2.rd _) (by simp; omega) (by simp; omega) (by simp)
    rw [show (E.take (E.length - 1)).length = E.length - 1 by simp] at HT
    rw [HC.out] at HT
    generalize (numR (E.take (E.length - 1)) (bs.length : Int)).1 = t1 at HT
    generalize (numR (E.take (E.length - 1)) (bs.length : Int)).2.1 = t2 at HT
    have HT' := hide HT
    clear HT HP HB HC
    have HK := clamp_cases n
    rcases HK with ⟨h1, h2⟩ | ⟨h1, h2⟩ | ⟨⟨h0, h1⟩, h2⟩
    all_goals
      rw [h2]
      clear h2
      go_wp2_with fail
      refine HT'.out.mono ?_
      rintro e w4 ⟨rfl, rfl⟩
      go_wp2_with fail
      refine (drawPutText_any a cap code w4 (hr.below B2) (by omega)).mono ?_
      rintro e w5 ⟨v5, bs', s, rfl, hl5, hs5, ho5, hv5, g5⟩
      obtain ⟨q5, c5, rfl, hq5, o5⟩ := owns_own' ho5 hv5
      have B5 : Below w'.heap.size w' w5 := B2.trans ((below_none g5).mono B2.size)
      clear ho5 hv5 g5 o2 HT'
      obtain ⟨F, HF⟩ : ∃ F, Hid (bs' ++ encT s = F) := ⟨_, rfl⟩
      have hF : F.length ≤ 24 := by rw [← HF.out]; have := encT_length s; simp; omega
      have hF1 : 1 ≤ F.length := by rw [← HF.out]; have := encN_pos s.size; simp [encT]; omega
      have HB := hide (encT_back bs' s (by omega))
      have HP : Hid (∀ a cap w, Rd w a bs' → bs'.length ≤ 1048580 → s.size ≤ 1048580 → _) := fun a cap w hr hn hs => implPutText_any a cap s bs' w hr hn hs
      rw [show bs' ++ (encN s.size ++ s.data.toList) = bs' ++ encT s from rfl, HF.out] at HB
      rw [HF.out] at HP
      go_wp2_with fail
      refine (HP.out _ _ _ o5.rd (by omega) (by omega)).mono ?_
      rintro e w6 ⟨v6, rfl, ho6, b6⟩
      obtain ⟨q6, c6, rfl, hq6, o6⟩ := owns_own ho6 (by omega)
      have B6 : Below w'.heap.size w' w6 := B5.trans (b6.mono B5.size)
      clear ho6 o5 HP
      go_wp2_with fail
      refine (implGetText_any _ c6 bs'.length F w6 o6.rd (by omega) o6.cap (by simp)).mono ?_
      rw [HB.out]
      rintro e w7 ⟨rfl, rfl⟩
      clear HB
      have k1 : (n == n) = true := by simp
      have k2 : ((E.length : Int) == (E.length : Int)) = true := by simp
      have k3 : (s.toList == s.toList) = true := by simp
      have k4 : ((F.length : Int) == (F.length : Int)) = true := by simp
      go_wp2
      go_ret
      exact ⟨rfl, B6⟩

theorem walk (a0 : Option Addr) (len0 cap0 : Nat) (z0 : List Int) (w : World) (w0 : IsRow .u8 w a0 len0 cap0 z0) :
    Calls Try.prog 3 #[.slice a0 len0 cap0] w fun e w' => e = .returned (.bool true) ∧ Below w.heap.size w w' := by
  obtain ⟨bs, hl, hr⟩ := rd_row w0
  have hm : len0 ≤ maxLen := isRow_len w0
  subst hl
  exact law a0 cap0 bs w hr hm

theorem own : ownKnob Try.prog.godebug = none := by kernel_rfl
theorem laidOut : laidOutB Try.prog = true := by kernel_rfl

set_option maxRecDepth 100000 in
theorem lifted (os : Os) (started : os.Started) (H : Type) (enc : TypeId × Value → H) :
    ReturnsInHanded {} Try.checked os 3 .any (Rows.fnNumsSpec.pre6 enc Try.prog Try.f3 Rows.fnNumsRow.domain false) (Rows.fnNumsSpec.post enc Try.prog Try.f3 false true false false) := by
  refine returnsInHanded_of_change (C := Try.checked) own started (by kernel_rfl) Try.func3
    (ChangeSpec.witness6 (enc := enc) (C := Try.checked) false ⟨#[], #[.slice none 0 0], []⟩ 8 (by kernel_rfl) (by kernel_rfl) (by kernel_rfl) (by kernel_rfl)) ?_
  intro W base args ds gs before hval0 hW hcnd _
  have hval : ∀ (j : Nat) t v, Try.f3.params[j]? = some t → args[j]? = some v → Value.okWide Try.prog W .any base t v := hval0
  have hW' := hW
  obtain ⟨p, q, hA0, hV, rfl, hfz, hnd⟩ := hW
  have hA : DataW.TrodAll enc Try.prog W 0 (fun _ => true) true Try.f3.params.toList args.toList ds p := hA0
  rw [Try.params3] at hA hval
  obtain ⟨v0, vs0, d0, ds0, p0, q0, hargs, rfl, rfl, h0, r0⟩ := trodAll_cons hA
  obtain ⟨rfl, rfl, rfl⟩ := trodAll_nil r0
  obtain rfl : args = #[v0] := by cases args; simp_all
  obtain ⟨rfl, rfl⟩ := trodVars_none hV
  obtain ⟨a0, len0, cap0, rfl⟩ := okWide_slice Try.underlying22 (hval 0 22 v0 rfl rfl)
  have k0 := h0
  have lt0 : ∀ x ∈ p0, x.block < W.heap.size := by obtain ⟨m, hm⟩ := k0; exact DataW.trod_lt m _ _ _ hm
  obtain ⟨z0, w0⟩ : ∃ zs, IsRow .u8 W a0 len0 cap0 zs := by
    obtain ⟨fuel, hf⟩ := h0
    rcases open_ints Try.underlying22 Try.underlying5 (by kernel_rfl) hf with ⟨hcs, _⟩ | ⟨x, l, c, zs, hcs, _, hl, hm, hz, _, hcell, hwz⟩
    · simp [Value.cells] at hcs
      obtain ⟨rfl, rfl, rfl⟩ := hcs
      exact ⟨[], .inl ⟨rfl, rfl, rfl, rfl⟩⟩
    · simp [Value.cells] at hcs
      obtain ⟨rfl, rfl, rfl⟩ := hcs
      exact ⟨zs, .inr ⟨_, rfl, hl, hm, by simpa using hz, hcell, hwz⟩⟩
  clear hA0 hval0
  refine (walk a0 len0 cap0 z0 W w0).mono fun e W' ⟨he, bel⟩ => ?_
  subst he
  exact ⟨_, rfl, _, _, _, [], _, [], hW', trodAll_mk1 (shut_bool Try.underlying4 _), (trodAll_cons_mk (Below.trod laidOut (by kernel_rfl) (of_decide_eq_true (by kernel_rfl)) k0 bel lt0) trodAll_mk0), rfl, bel.frame _, fun h => by cases h⟩

theorem over : Rows.fnNumsRow.holds Try.pinned (OpenSpec.ofChange Rows.fnNumsSpec) :=
  OpenClaim.holds_of_wide 3 Try.f3 rfl rfl rfl rfl rfl rfl rfl ⟨rfl, rfl, rfl, rfl, rfl⟩ rfl rfl rfl rfl rfl (by kernel_rfl) Try.func3 (by kernel_rfl)
    (of_decide_eq_true (by kernel_rfl)) (by unfold Func.isWrapper; first | (rw [if_pos (by decide +kernel)]; kernel_rfl) | (rw [if_neg (by decide +kernel)]; exact ⟨rfl, rfl⟩))
    (fun os started H enc _ => lifted os started H enc)
end Go.Proofs.Ytoppajcjpbdgjaa.LawNums
namespace Go.Proofs.Ytoppajcjpbdgjaa
theorem fnNums_holds : Rows.FnNumsSaid := LawNums.over
#print axioms fnNums_holds
end Go.Proofs.Ytoppajcjpbdgjaa
