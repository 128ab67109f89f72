/-
  Texts of this claim joined into one: BoxK, ArgOk, ArgT, PatOk, PatT, ArgTI, PatTI, MarkF, LawArg, MarkArg, StrRow, VarsP, Clone, VarsOf, VarsQ, Bytes, Bits, Draw, Num, Enc, DrawB.
-/
import Derived.Test.YtaflokfgbmlmaacDoorJoined1
import Derived.Laws.StructEq
import Derived.ChangeKeysEq
import Derived.Test.YtaflokfgbmlmaacDoorShelf
import Derived.OwnWalk
import Derived.Laws.IdiomStrings
import Derived.Handy
import Derived.Deep.RegionHeld3
import Derived.Deep.QuietTactic
import Derived.BigQuiet
import Derived.Deep.AppendLies
import Derived.OpenShut
import Derived.Laws.BitsAllLaws
/-
  A block of some cells (a struct in memory): what it reads as, what a store leaves.
-/
namespace Go.Proofs.YtaflokfgbmlmaacDoor
open Go.RowKit
set_option linter.unusedVariables false

theorem boxk_new (w : World) (cs : Array Value) (T : TypeId) : (w.alloc (.cells cs T)).heap[w.heap.size]? = some (.cells cs T (0, 0)) := by rw [heap_alloc_new]
theorem boxk_cell {w : World} {q : Nat} {cs : Array Value} {T : TypeId} (h : w.heap[q]? = some (.cells cs T (0, 0))) (j : Nat) (c : Value) (hc : cs[j]? = some c) : w.cell? ⟨q, j, none⟩ = some c := by
  rw [cell_of_row w q j cs T (0, 0) h]; exact hc
theorem boxk_frozen {w : World} {q : Nat} {cs : Array Value} {T : TypeId} (h : w.heap[q]? = some (.cells cs T (0, 0))) (j : Nat) : w.frozen? ⟨q, j, none⟩ = false := frozen_of_row w q j _ T h
theorem boxk_set {w : World} {q : Nat} {cs : Array Value} {T : TypeId} (h : w.heap[q]? = some (.cells cs T (0, 0))) (j : Nat) (v : Value) :
    (w.setCell ⟨q, j, none⟩ v).heap[q]? = some (.cells (cs.setIfInBounds j v) T (0, 0)) ∧ w.grownBy (w.setCell ⟨q, j, none⟩ v) (some q) := by
  refine ⟨by rw [heap_setCell_same w q j _ T v h], ⟨rfl, rfl, rfl, by simp [World.setCell], fun k _ hk => heap_setCell_other w ⟨q, j, none⟩ k v (fun e => hk (by simp [e]))⟩⟩
theorem grown_tt {a b c : World} {row : Option Nat} (h : a.grownBy b row) (k : b.grownBy c row) : a.grownBy c row :=
  ⟨k.os.trans h.os, k.tape.trans h.tape, k.output.trans h.output, Nat.le_trans h.size k.size, fun i hi hne => (k.block i (Nat.lt_of_lt_of_le hi h.size) hne).trans (h.block i hi hne)⟩
theorem box4_set {w : World} {q : Nat} {c0 c1 c2 c3 : Value} {T : TypeId} (h : w.heap[q]? = some (.cells #[c0, c1, c2, c3] T (0, 0))) (v0 v1 v2 v3 : Value) :
    ((((w.setCell ⟨q, 0, none⟩ v0).setCell ⟨q, 1, none⟩ v1).setCell ⟨q, 2, none⟩ v2).setCell ⟨q, 3, none⟩ v3).heap[q]? = some (.cells #[v0, v1, v2, v3] T (0, 0)) ∧ w.grownBy ((((w.setCell ⟨q, 0, none⟩ v0).setCell ⟨q, 1, none⟩ v1).setCell ⟨q, 2, none⟩ v2).setCell ⟨q, 3, none⟩ v3) (some q) := by
  have h0 := boxk_set h 0 v0
  have h1 := boxk_set h0.1 1 v1
  have h2 := boxk_set h1.1 2 v2
  have h3 := boxk_set h2.1 3 v3
  exact ⟨h3.1, (grown_tt (grown_tt (grown_tt h0.2 h1.2) h2.2) h3.2)⟩
theorem box4_post {P : Program} {f : Func} {Q : Ending → World → Prop} {x : Exit} {act : Act} {w : World} {q : Nat} {c0 c1 c2 c3 v0 v1 v2 v3 : Value} {T : TypeId} (h : w.heap[q]? = some (.cells #[c0, c1, c2, c3] T (0, 0)))
    (k : ∀ w2, w2.heap[q]? = some (.cells #[v0, v1, v2, v3] T (0, 0)) → w.grownBy w2 (some q) → bodyPost P f Q x act w2) : bodyPost P f Q x act ((((w.setCell ⟨q, 0, none⟩ v0).setCell ⟨q, 1, none⟩ v1).setCell ⟨q, 2, none⟩ v2).setCell ⟨q, 3, none⟩ v3) :=
  k _ (box4_set h v0 v1 v2 v3).1 (box4_set h v0 v1 v2 v3).2
theorem box5_set {w : World} {q : Nat} {c0 c1 c2 c3 c4 : Value} {T : TypeId} (h : w.heap[q]? = some (.cells #[c0, c1, c2, c3, c4] T (0, 0))) (v0 v1 v2 v3 v4 : Value) :
    (((((w.setCell ⟨q, 0, none⟩ v0).setCell ⟨q, 1, none⟩ v1).setCell ⟨q, 2, none⟩ v2).setCell ⟨q, 3, none⟩ v3).setCell ⟨q, 4, none⟩ v4).heap[q]? = some (.cells #[v0, v1, v2, v3, v4] T (0, 0)) ∧ w.grownBy (((((w.setCell ⟨q, 0, none⟩ v0).setCell ⟨q, 1, none⟩ v1).setCell ⟨q, 2, none⟩ v2).setCell ⟨q, 3, none⟩ v3).setCell ⟨q, 4, none⟩ v4) (some q) := by
  have h0 := boxk_set h 0 v0
  have h1 := boxk_set h0.1 1 v1
  have h2 := boxk_set h1.1 2 v2
  have h3 := boxk_set h2.1 3 v3
  have h4 := boxk_set h3.1 4 v4
  exact ⟨h4.1, (grown_tt (grown_tt (grown_tt (grown_tt h0.2 h1.2) h2.2) h3.2) h4.2)⟩
theorem box5_post {P : Program} {f : Func} {Q : Ending → World → Prop} {x : Exit} {act : Act} {w : World} {q : Nat} {c0 c1 c2 c3 c4 v0 v1 v2 v3 v4 : Value} {T : TypeId} (h : w.heap[q]? = some (.cells #[c0, c1, c2, c3, c4] T (0, 0)))
    (k : ∀ w2, w2.heap[q]? = some (.cells #[v0, v1, v2, v3, v4] T (0, 0)) → w.grownBy w2 (some q) → bodyPost P f Q x act w2) : bodyPost P f Q x act (((((w.setCell ⟨q, 0, none⟩ v0).setCell ⟨q, 1, none⟩ v1).setCell ⟨q, 2, none⟩ v2).setCell ⟨q, 3, none⟩ v3).setCell ⟨q, 4, none⟩ v4) :=
  k _ (box5_set h v0 v1 v2 v3 v4).1 (box5_set h v0 v1 v2 v3 v4).2
end Go.Proofs.YtaflokfgbmlmaacDoor
/-
  What the functions on an argument's rightness answer: argB, the tested one and the model alike.
-/
namespace Go.Proofs.YtaflokfgbmlmaacDoor
open Go.RowKit
set_option linter.unusedVariables false
set_option maxRecDepth 100000

def zV : V3 := ⟨0, 0, ⟨#[]⟩⟩
/-- is an argument right? -/
def argB (K : Int) (S : ByteArray) (V : V3) : Bool :=
  if K = 1 then varB S && decide (V = zV) else if K = 2 then valB V.K V.N V.S && decide (S.size = 0) else if K = 3 then decide (S.size = 0) && decide (V = zV) else false
def A5.ok (x : A5) : Bool := argB x.K x.S x.V

theorem eqVs (v u : V3) (w : World) (d : Nat) : (Op.equalIn (d + 3) 37 (.agg #[.int .i64 v.K, .int .i64 v.N, .string v.S]) (.agg #[.int .i64 u.K, .int .i64 u.N, .string u.S])).run Tryd.prog w = .ok (decide (v = u)) w := by
  rcases v3_cases v u with rfl | ⟨hne, hv⟩
  · have k1 : (v.K == v.K) = true := by simp
    have k2 : (v.N == v.N) = true := by simp
    have k3 : (v.S.toList == v.S.toList) = true := by simp
    rw [decide_eq_true rfl]
    go_simp
  · rw [decide_eq_false hne]
    clear hne
    rcases hv with k1 | ⟨k1, k2⟩ | ⟨k1, k2, k3⟩ <;> go_simp
theorem eqA (K K' : Int) (S S' : ByteArray) (v u : V3) (w : World) (d : Nat) : (Op.equalIn (d + 5) 39 (.agg #[.int .i64 K, .string S, .int .i64 v.K, .int .i64 v.N, .string v.S]) (.agg #[.int .i64 K', .string S', .int .i64 u.K, .int .i64 u.N, .string u.S])).run Tryd.prog w = .ok (decide (K = K') && decide (S = S') && decide (v = u)) w := by
  have hv := fun w => eqVs v u w (d + 1)
  by_cases h1 : K = K'
  · subst h1
    have k1 : (K == K) = true := by simp
    by_cases h2 : S = S'
    · subst h2
      have k2 : (S.toList == S.toList) = true := by simp
      simp only [decide_true, Bool.true_and]
      generalize decide (v = u) = r at hv ⊢
      cases r <;> go_simp
    · have k2 : (S.toList == S'.toList) = false := by
        simp only [beq_eq_false_iff_ne, ne_eq]
        exact fun e => h2 (toList_inj e)
      simp only [decide_true, decide_eq_false h2, Bool.and_false, Bool.false_and]
      clear h2
      go_simp
  · have k1 : (K == K') = false := by simpa using h1
    simp only [decide_eq_false h1, Bool.false_and]
    clear h1
    go_simp
theorem eqA9 (K K' : Int) (S S' : ByteArray) (VK VN : Int) (VS : ByteArray) (UK UN : Int) (US : ByteArray) (b : Bool) (hb : (decide (K = K') && decide (S = S') && decide ((⟨VK, VN, VS⟩ : V3) = ⟨UK, UN, US⟩)) = b) (w : World) :
    (Op.equalIn 9999 39 (.agg #[.int .i64 K, .string S, .int .i64 VK, .int .i64 VN, .string VS]) (.agg #[.int .i64 K', .string S', .int .i64 UK, .int .i64 UN, .string US])).run Tryd.prog w = .ok b w := by
  rw [← hb]; exact eqA K K' S S' ⟨VK, VN, VS⟩ ⟨UK, UN, US⟩ w 9994
theorem eqV9 (VK VN : Int) (VS : ByteArray) (UK UN : Int) (US : ByteArray) (b : Bool) (hb : decide ((⟨VK, VN, VS⟩ : V3) = ⟨UK, UN, US⟩) = b) (w : World) :
    (Op.equalIn 9999 37 (.agg #[.int .i64 VK, .int .i64 VN, .string VS]) (.agg #[.int .i64 UK, .int .i64 UN, .string US])).run Tryd.prog w = .ok b w := by
  rw [← hb]; exact eqVs ⟨VK, VN, VS⟩ ⟨UK, UN, US⟩ w 9996
theorem below_gn' {w w' : World} (h : w.grownBy w' none) : Below w.heap.size w w' := (Below.refl _ _).grown h (Nat.le_refl _) (fun k hk => by cases hk)
theorem cell_gn {w w' : World} (h : w.grownBy w' none) {a : Addr} {v : Value} (hc : w.cell? a = some v) : w'.cell? a = some v := h.cell hc (by simp)
theorem dec_empty (S : ByteArray) : decide (S = (⟨#[]⟩ : ByteArray)) = decide (S.size = 0) := by
  rw [decide_eq_decide]
  exact ⟨fun h => by rw [h]; rfl, empty_of_size⟩
/-- a value is none, or it parts from none at its kind, its number or its text -/
theorem v_cases (VK VN : Int) (VS : ByteArray) : (VK = 0 ∧ VN = 0 ∧ VS = ⟨#[]⟩) ∨ (VK == 0) = false ∨ (VK = 0 ∧ (VN == 0) = false) ∨ (VK = 0 ∧ VN = 0 ∧ VS.size ≠ 0) := by
  by_cases h1 : VK = 0
  · by_cases h2 : VN = 0
    · by_cases h3 : VS.size = 0
      · exact .inl ⟨h1, h2, empty_of_size h3⟩
      · exact .inr (.inr (.inr ⟨h1, h2, h3⟩))
    · exact .inr (.inr (.inl ⟨h1, by simpa using h2⟩))
  · exact .inr (.inl (by simpa using h1))
theorem argB1 (S : ByteArray) (V : V3) : argB 1 S V = (varB S && decide (V = zV)) := by simp [argB]
theorem argB2 (S : ByteArray) (V : V3) : argB 2 S V = (valB V.K V.N V.S && decide (S.size = 0)) := by simp [argB]
theorem argB3 (S : ByteArray) (V : V3) : argB 3 S V = (decide (S.size = 0) && decide (V = zV)) := by simp [argB]
theorem argB_no {K : Int} (S : ByteArray) (V : V3) (h1 : K ≠ 1) (h2 : K ≠ 2) (h3 : K ≠ 3) : argB K S V = false := by simp [argB, h1, h2, h3]
theorem zV_K {VK VN : Int} {VS : ByteArray} (h : (VK == 0) = false) : decide ((⟨VK, VN, VS⟩ : V3) = zV) = false := by
  simp only [zV, V3.mk.injEq, decide_eq_false_iff_not]; intro e; simp [e.1] at h
theorem zV_N {VN : Int} {VS : ByteArray} (h : (VN == 0) = false) : decide ((⟨0, VN, VS⟩ : V3) = zV) = false := by
  simp only [zV, V3.mk.injEq, decide_eq_false_iff_not]; intro e; simp [e.2.1] at h
theorem zV_S {VS : ByteArray} (h : VS.size ≠ 0) : decide ((⟨0, 0, VS⟩ : V3) = zV) = false := by
  simp only [zV, V3.mk.injEq, decide_eq_false_iff_not]; intro e; rw [e.2.2] at h; exact h rfl
theorem zV_z : decide ((⟨0, 0, ⟨#[]⟩⟩ : V3) = zV) = true := by simp [zV]

set_option maxHeartbeats 3200000 in
theorem implArgOk_any (K : Int) (S : ByteArray) (VK VN : Int) (VS : ByteArray) (w : World) (hs : S.size ≤ maxLen) (hv : VS.size ≤ maxLen) :
    Calls Tryd.prog 31 #[.agg #[.int .i64 K, .string S, .int .i64 VK, .int .i64 VN, .string VS]] w fun e w' => e = .returned (.bool (argB K S ⟨VK, VN, VS⟩)) ∧ Below w.heap.size w w' := by
  have b0 := below_al w (.cells #[.int .i64 K, .string S, .int .i64 VK, .int .i64 VN, .string VS] 39)
  have e1 : (S.toList == S.toList) = true := by simp
  have e2 : (VS.toList == VS.toList) = true := by simp
  have e3 : (VK == VK) = true := by simp
  have e4 : (VN == VN) = true := by simp
  by_cases h1 : K = 1
  · subst h1
    rcases v_cases VK VN VS with ⟨rfl, rfl, rfl⟩ | kz | ⟨rfl, kz⟩ | ⟨rfl, rfl, kz⟩
    · have HR := hide (argB1 S ⟨0, 0, ⟨#[]⟩⟩)
      rw [zV_z] at HR
      go_enter Tryd.func31, Tryd.ntmps31
      go_wp2_with (go_at_call 71; refine (isVar_any _ _ hs).mono ?_; rintro e w' ⟨rfl, rfl⟩)
      go_ret
      exact ⟨ret_bool (by rw [HR.out]; simp), b0⟩
    · have HR := hide (argB1 S ⟨VK, VN, VS⟩)
      rw [(zV_K kz)] at HR
      go_enter Tryd.func31, Tryd.ntmps31
      go_wp2
      go_ret
      exact ⟨ret_bool (by rw [HR.out]; simp), b0⟩
    · have HR := hide (argB1 S ⟨0, VN, VS⟩)
      rw [(zV_N kz)] at HR
      go_enter Tryd.func31, Tryd.ntmps31
      go_wp2
      go_ret
      exact ⟨ret_bool (by rw [HR.out]; simp), b0⟩
    · have HR := hide (argB1 S ⟨0, 0, VS⟩)
      rw [(zV_S kz)] at HR
      have ke := isEmpty_false kz
      clear kz
      go_enter Tryd.func31, Tryd.ntmps31
      go_wp2
      go_ret
      exact ⟨ret_bool (by rw [HR.out]; simp), b0⟩
  · have k1 : (K == 1) = false := by simpa using h1
    by_cases h2 : K = 2
    · subst h2
      by_cases hz : S.size = 0
      · obtain rfl := empty_of_size hz
        have HR := hide (argB2 ⟨#[]⟩ ⟨VK, VN, VS⟩)
        go_enter Tryd.func31, Tryd.ntmps31
        go_wp2_with fail
        refine (implValOk_any _ _ _ _ hv).mono ?_
        rintro e w1 ⟨rfl, hb⟩
        have B1 : Below w.heap.size w w1 := b0.trans (hb.mono b0.size)
        go_wp2
        go_ret
        exact ⟨ret_bool (by rw [HR.out, decide_eq_true (show (⟨#[]⟩ : ByteArray).size = 0 from rfl)]; simp), B1⟩
      · have HR := hide (argB2 S ⟨VK, VN, VS⟩)
        rw [decide_eq_false hz] at HR
        have hE := isEmpty_false hz
        clear hz
        go_enter Tryd.func31, Tryd.ntmps31
        go_wp2
        go_ret
        exact ⟨ret_bool (by rw [HR.out]; simp), b0⟩
    · have k2 : (K == 2) = false := by simpa using h2
      by_cases h3 : K = 3
      · subst h3
        clear h1 h2 k1 k2
        by_cases hz : S.size = 0
        · obtain rfl := empty_of_size hz
          rcases v_cases VK VN VS with ⟨rfl, rfl, rfl⟩ | kz | ⟨rfl, kz⟩ | ⟨rfl, rfl, kz⟩
          · have HR := hide (argB3 ⟨#[]⟩ ⟨0, 0, ⟨#[]⟩⟩)
            rw [zV_z] at HR
            go_enter Tryd.func31, Tryd.ntmps31
            go_wp2
            go_ret
            exact ⟨ret_bool (by rw [HR.out, decide_eq_true (show (⟨#[]⟩ : ByteArray).size = 0 from rfl)]; rfl), b0⟩
          · have HR := hide (argB3 ⟨#[]⟩ ⟨VK, VN, VS⟩)
            rw [(zV_K kz)] at HR
            go_enter Tryd.func31, Tryd.ntmps31
            go_wp2
            go_ret
            exact ⟨ret_bool (by rw [HR.out, decide_eq_true (show (⟨#[]⟩ : ByteArray).size = 0 from rfl)]; rfl), b0⟩
          · have HR := hide (argB3 ⟨#[]⟩ ⟨0, VN, VS⟩)
            rw [(zV_N kz)] at HR
            go_enter Tryd.func31, Tryd.ntmps31
            go_wp2
            go_ret
            exact ⟨ret_bool (by rw [HR.out, decide_eq_true (show (⟨#[]⟩ : ByteArray).size = 0 from rfl)]; rfl), b0⟩
          · have HR := hide (argB3 ⟨#[]⟩ ⟨0, 0, VS⟩)
            rw [(zV_S kz)] at HR
            have ke := isEmpty_false kz
            clear kz
            go_enter Tryd.func31, Tryd.ntmps31
            go_wp2
            go_ret
            exact ⟨ret_bool (by rw [HR.out, decide_eq_true (show (⟨#[]⟩ : ByteArray).size = 0 from rfl)]; rfl), b0⟩
        · have HR := hide (argB3 S ⟨VK, VN, VS⟩)
          rw [decide_eq_false hz] at HR
          have hE := isEmpty_false hz
          clear hz
          go_enter Tryd.func31, Tryd.ntmps31
          go_wp2
          go_ret
          exact ⟨ret_bool (by rw [HR.out]; simp), b0⟩
      · have HR := hide (argB_no S ⟨VK, VN, VS⟩ h1 h2 h3)
        have k3 : (K == 3) = false := by simpa using h3
        clear h1 h2 h3
        go_enter Tryd.func31, Tryd.ntmps31
        go_wp2
        go_ret
        exact ⟨ret_bool HR.out.symm, b0⟩

set_option maxHeartbeats 3200000 in
theorem specArgOk_any (K : Int) (S : ByteArray) (VK VN : Int) (VS : ByteArray) (w : World) (hs : S.size ≤ maxLen) (hv : VS.size ≤ maxLen) :
    Calls Tryd.prog 32 #[.agg #[.int .i64 K, .string S, .int .i64 VK, .int .i64 VN, .string VS]] w fun e w' => e = .returned (.bool (argB K S ⟨VK, VN, VS⟩)) ∧ Below w.heap.size w w' := by
  have b0 := below_al w (.cells #[.int .i64 K, .string S, .int .i64 VK, .int .i64 VN, .string VS] 39)
  have e1 : (S.toList == S.toList) = true := by simp
  have e2 : (VS.toList == VS.toList) = true := by simp
  have e3 : (VK == VK) = true := by simp
  have e4 : (VN == VN) = true := by simp
  by_cases h1 : K = 1
  · subst h1
    rcases v_cases VK VN VS with ⟨rfl, rfl, rfl⟩ | kz | ⟨rfl, kz⟩ | ⟨rfl, rfl, kz⟩
    · have HR := hide (argB1 S ⟨0, 0, ⟨#[]⟩⟩)
      rw [zV_z] at HR
      cases hb : varB S
      all_goals
        go_enter Tryd.func32, Tryd.ntmps32
        go_wp2_with (go_at_call 73; refine (l5VarOk_any _ _ hs).mono ?_; rintro e w' ⟨rfl, rfl⟩; rw [hb])
        go_ret
        exact ⟨ret_bool (by rw [HR.out, hb]; rfl), b0⟩
    · have HR := hide (argB1 S ⟨VK, VN, VS⟩)
      rw [(zV_K kz)] at HR
      cases hb : varB S
      all_goals
        go_enter Tryd.func32, Tryd.ntmps32
        go_wp2_with (go_at_call 73; refine (l5VarOk_any _ _ hs).mono ?_; rintro e w' ⟨rfl, rfl⟩; rw [hb])
        go_ret
        exact ⟨ret_bool (by rw [HR.out, hb]; rfl), b0⟩
    · have HR := hide (argB1 S ⟨0, VN, VS⟩)
      rw [(zV_N kz)] at HR
      cases hb : varB S
      all_goals
        go_enter Tryd.func32, Tryd.ntmps32
        go_wp2_with (go_at_call 73; refine (l5VarOk_any _ _ hs).mono ?_; rintro e w' ⟨rfl, rfl⟩; rw [hb])
        go_ret
        exact ⟨ret_bool (by rw [HR.out, hb]; rfl), b0⟩
    · have HR := hide (argB1 S ⟨0, 0, VS⟩)
      rw [(zV_S kz)] at HR
      have ke := isEmpty_false kz
      clear kz
      cases hb : varB S
      all_goals
        go_enter Tryd.func32, Tryd.ntmps32
        go_wp2_with (go_at_call 73; refine (l5VarOk_any _ _ hs).mono ?_; rintro e w' ⟨rfl, rfl⟩; rw [hb])
        go_ret
        exact ⟨ret_bool (by rw [HR.out, hb]; rfl), b0⟩
  · have k1 : (K == 1) = false := by simpa using h1
    by_cases h2 : K = 2
    · subst h2
      have HR := hide (argB2 S ⟨VK, VN, VS⟩)
      obtain ⟨s0, hs0⟩ : ∃ s0, s0 = decide (S.size = 0) := ⟨_, rfl⟩
      have hE : S.toList.isEmpty = s0 := by
        rw [hs0]
        by_cases h : S.size = 0
        · rw [decide_eq_true h, empty_of_size h, ByteArray.toList_eq]; rfl
        · rw [isEmpty_false h, decide_eq_false h]
      rw [← hs0] at HR
      clear hs0 h1 k1
      rcases v_cases VK VN VS with ⟨rfl, rfl, rfl⟩ | kz | ⟨rfl, kz⟩ | ⟨rfl, rfl, kz⟩
      · cases hb : valB 0 0 ⟨#[]⟩
        all_goals
          go_enter Tryd.func32, Tryd.ntmps32
          go_wp2_with fail
          refine (specValOk_any _ _ _ _ hv).mono ?_
          rintro e w1 ⟨rfl, g1⟩
          rw [hb]
          have B1 : Below w.heap.size w w1 := b0.trans ((below_gn' g1).mono b0.size)
          have c1 := cell_gn g1 (boxk_cell (boxk_new w #[.int .i64 2, .string S, .int .i64 0, .int .i64 0, .string ⟨#[]⟩] 39) 1 _ rfl)
          go_wp2
          go_ret
          exact ⟨ret_bool (by rw [HR.out]; simp only [hb]; rfl), B1⟩
      · cases hb : valB VK VN VS
        all_goals
          go_enter Tryd.func32, Tryd.ntmps32
          go_wp2_with fail
          refine (specValOk_any _ _ _ _ hv).mono ?_
          rintro e w1 ⟨rfl, g1⟩
          rw [hb]
          have B1 : Below w.heap.size w w1 := b0.trans ((below_gn' g1).mono b0.size)
          have c1 := cell_gn g1 (boxk_cell (boxk_new w #[.int .i64 2, .string S, .int .i64 VK, .int .i64 VN, .string VS] 39) 1 _ rfl)
          go_wp2
          go_ret
          exact ⟨ret_bool (by rw [HR.out]; simp only [hb]; rfl), B1⟩
      · cases hb : valB 0 VN VS
        all_goals
          go_enter Tryd.func32, Tryd.ntmps32
          go_wp2_with fail
          refine (specValOk_any _ _ _ _ hv).mono ?_
          rintro e w1 ⟨rfl, g1⟩
          rw [hb]
          have B1 : Below w.heap.size w w1 := b0.trans ((below_gn' g1).mono b0.size)
          have c1 := cell_gn g1 (boxk_cell (boxk_new w #[.int .i64 2, .string S, .int .i64 0, .int .i64 VN, .string VS] 39) 1 _ rfl)
          go_wp2
          go_ret
          exact ⟨ret_bool (by rw [HR.out]; simp only [hb]; rfl), B1⟩
      · cases hb : valB 0 0 VS
        all_goals
          have ke := isEmpty_false kz
          go_enter Tryd.func32, Tryd.ntmps32
          go_wp2_with fail
          refine (specValOk_any _ _ _ _ hv).mono ?_
          rintro e w1 ⟨rfl, g1⟩
          rw [hb]
          have B1 : Below w.heap.size w w1 := b0.trans ((below_gn' g1).mono b0.size)
          have c1 := cell_gn g1 (boxk_cell (boxk_new w #[.int .i64 2, .string S, .int .i64 0, .int .i64 0, .string VS] 39) 1 _ rfl)
          go_wp2
          go_ret
          exact ⟨ret_bool (by rw [HR.out]; simp only [hb]; rfl), B1⟩
    · have k2 : (K == 2) = false := by simpa using h2
      by_cases h3 : K = 3
      · subst h3
        have HR := hide (argB3 S ⟨VK, VN, VS⟩)
        clear h1 h2 k1 k2
        by_cases hz : S.size = 0
        · obtain rfl := empty_of_size hz
          rcases v_cases VK VN VS with ⟨rfl, rfl, rfl⟩ | kz | ⟨rfl, kz⟩ | ⟨rfl, rfl, kz⟩
          · rw [zV_z] at HR
            go_enter Tryd.func32, Tryd.ntmps32
            go_wp2
            go_ret
            exact ⟨ret_bool (by rw [HR.out]; rfl), b0⟩
          · rw [(zV_K kz)] at HR
            go_enter Tryd.func32, Tryd.ntmps32
            go_wp2
            go_ret
            exact ⟨ret_bool (by rw [HR.out]; rfl), b0⟩
          · rw [(zV_N kz)] at HR
            go_enter Tryd.func32, Tryd.ntmps32
            go_wp2
            go_ret
            exact ⟨ret_bool (by rw [HR.out]; rfl), b0⟩
          · rw [(zV_S kz)] at HR
            have ke := isEmpty_false kz
            clear kz
            go_enter Tryd.func32, Tryd.ntmps32
            go_wp2
            go_ret
            exact ⟨ret_bool (by rw [HR.out]; rfl), b0⟩
        · rw [decide_eq_false hz] at HR
          have hE := isEmpty_false hz
          clear hz
          rcases v_cases VK VN VS with ⟨rfl, rfl, rfl⟩ | kz | ⟨rfl, kz⟩ | ⟨rfl, rfl, kz⟩
          · rw [zV_z] at HR
            go_enter Tryd.func32, Tryd.ntmps32
            go_wp2
            go_ret
            exact ⟨ret_bool (by rw [HR.out]; rfl), b0⟩
          · rw [(zV_K kz)] at HR
            go_enter Tryd.func32, Tryd.ntmps32
            go_wp2
            go_ret
            exact ⟨ret_bool (by rw [HR.out]; rfl), b0⟩
          · rw [(zV_N kz)] at HR
            go_enter Tryd.func32, Tryd.ntmps32
            go_wp2
            go_ret
            exact ⟨ret_bool (by rw [HR.out]; rfl), b0⟩
          · rw [(zV_S kz)] at HR
            have ke := isEmpty_false kz
            clear kz
            go_enter Tryd.func32, Tryd.ntmps32
            go_wp2
            go_ret
            exact ⟨ret_bool (by rw [HR.out]; rfl), b0⟩
      · have HR := hide (argB_no S ⟨VK, VN, VS⟩ h1 h2 h3)
        have k3 : (K == 3) = false := by simpa using h3
        clear h1 h2 h3
        rcases v_cases VK VN VS with ⟨rfl, rfl, rfl⟩ | kz | ⟨rfl, kz⟩ | ⟨rfl, rfl, kz⟩
        · go_enter Tryd.func32, Tryd.ntmps32
          go_wp2
          go_ret
          exact ⟨ret_bool HR.out.symm, b0⟩
        · go_enter Tryd.func32, Tryd.ntmps32
          go_wp2
          go_ret
          exact ⟨ret_bool HR.out.symm, b0⟩
        · go_enter Tryd.func32, Tryd.ntmps32
          go_wp2
          go_ret
          exact ⟨ret_bool HR.out.symm, b0⟩
        · have ke := isEmpty_false kz
          clear kz
          go_enter Tryd.func32, Tryd.ntmps32
          go_wp2
          go_ret
          exact ⟨ret_bool HR.out.symm, b0⟩
end Go.Proofs.YtaflokfgbmlmaacDoor
/-
  What the text of an argument is; the model's.
-/
namespace Go.Proofs.YtaflokfgbmlmaacDoor
open Go.RowKit
set_option linter.unusedVariables false

def argT (K : Int) (S : ByteArray) (V : V3) : ByteArray := if K = 1 then S else if K = 2 then textV V.K V.N V.S else ⟨#[95]⟩
def A5.tx (x : A5) : ByteArray := argT x.K x.S x.V
theorem var_size {s : ByteArray} (h : varB s = true) : s.size ≤ 12 := by
  unfold varB inB at h
  simp only [Bool.and_eq_true, decide_eq_true_eq] at h
  omega
theorem txA_size {x : A5} (h : x.ok = true) : x.tx.size ≤ 22 := by
  obtain ⟨K, S, V⟩ := x
  have h' : argB K S V = true := h
  show (argT K S V).size ≤ 22
  unfold argT
  unfold argB at h'
  by_cases h1 : K = 1
  · rw [if_pos h1] at h' ⊢
    have := var_size ((Bool.and_eq_true _ _).mp h').1
    omega
  · rw [if_neg h1] at h' ⊢
    by_cases h2 : K = 2
    · rw [if_pos h2] at h' ⊢
      exact tx_size (v := V) ((Bool.and_eq_true _ _).mp h').1
    · rw [if_neg h2]
      show 1 ≤ 22
      omega
set_option maxRecDepth 100000 in
set_option maxHeartbeats 1600000 in
theorem l6ArgText_any (K : Int) (S : ByteArray) (V : V3) (w : World) (hok : argB K S V = true) :
    Calls Tryd.prog 60 #[.agg #[.int .i64 K, .string S, .int .i64 V.K, .int .i64 V.N, .string V.S]] w fun e w' => e = .returned (.string (argT K S V)) ∧ Below w.heap.size w w' := by
  have b0 := below_al w (.cells #[.int .i64 K, .string S, .int .i64 V.K, .int .i64 V.N, .string V.S] 39)
  by_cases h1 : K = 1
  · subst h1
    go_enter Tryd.func60, Tryd.ntmps60
    go_wp2
    go_ret
    exact ⟨rfl, b0⟩
  · have k1 : (K == 1) = false := by simpa using h1
    by_cases h2 : K = 2
    · subst h2
      have hv : valB V.K V.N V.S = true := by rw [argB2] at hok; exact ((Bool.and_eq_true _ _).mp hok).1
      go_enter Tryd.func60, Tryd.ntmps60
      go_wp2_with fail
      refine (l2Text_any _ _ _ _ hv).mono ?_
      rintro e w1 ⟨rfl, hb⟩
      have B1 : Below w.heap.size w w1 := b0.trans (hb.mono b0.size)
      go_wp2
      go_ret
      exact ⟨rfl, B1⟩
    · have k2 : (K == 2) = false := by simpa using h2
      have HR : Hid (argT K S V = ⟨#[95]⟩) := by unfold Hid argT; rw [if_neg h1, if_neg h2]
      clear h1 h2 hok
      go_enter Tryd.func60, Tryd.ntmps60
      go_wp2
      go_ret
      exact ⟨by rw [HR.out]; rfl, b0⟩
end Go.Proofs.YtaflokfgbmlmaacDoor
/-
  What the functions on a pattern's rightness answer: patB, the tested one and the model alike.
-/
namespace Go.Proofs.YtaflokfgbmlmaacDoor
open Go.RowKit
set_option linter.unusedVariables false

def patB (kd : ByteArray) (L : List A5) : Bool := nameB kd && decide (L.length ≤ 5) && L.all A5.ok
theorem allA_no {L : List A5} {k : Nat} (hk : k < L.length) (h : argB (eAt L k).K (eAt L k).S (eAt L k).V = false) : L.all A5.ok = false := by
  rw [Bool.eq_false_iff]
  intro ha
  have := List.all_eq_true.1 ha L[k] (List.getElem_mem hk)
  rw [← eAt_in hk] at this
  unfold A5.ok at this
  rw [h] at this; cases this
theorem allA_yes {L : List A5} (h : ∀ k, k < L.length → argB (eAt L k).K (eAt L k).S (eAt L k).V = true) : L.all A5.ok = true := by
  rw [List.all_eq_true]
  intro v hv
  obtain ⟨k, hk, rfl⟩ := List.getElem_of_mem hv
  rw [← eAt_in hk]; exact h k hk

set_option maxRecDepth 100000 in
set_option maxHeartbeats 1600000 in
theorem specPatOk_any (kd : ByteArray) (a : Option Addr) (cap : Nat) (L : List A5) (nt : Bool) (w : World) (hkd : kd.size ≤ maxLen) (hr : RdArg w a L) (hs : ∀ x ∈ L, x.fits) (hm : L.length ≤ 1048580) :
    Calls Tryd.prog 30 #[.agg #[.string kd, .slice a L.length cap, .bool nt]] w fun e w' =>
      e = .returned (.bool (patB kd L)) ∧ Below w.heap.size w w' := by
  have b0 := below_al w (.cells #[.string kd, .slice a L.length cap, .bool nt] 53)
  have hP := boxk_new w #[.string kd, .slice a L.length cap, .bool nt] 53
  have HF : Hid (patB kd L = (nameB kd && decide (L.length ≤ 5) && L.all A5.ok)) := rfl
  obtain ⟨n, hN⟩ : ∃ n, n = L.length := ⟨_, rfl⟩
  rw [← hN] at hm b0 hP HF ⊢
  have HN := hide hN
  have HS := hide hs
  have HP := hide hP
  clear hN hs hP
  go_enter Tryd.func30, Tryd.ntmps30
  go_wp2
  go_loopw [3] (fun i wr => ∃ (k : Nat), k ≤ n ∧ i = .int .i64 k ∧ (∀ j, j < k → argB (eAt L j).K (eAt L j).S (eAt L j).V = true) ∧ Below (w.alloc (.cells #[.string kd, .slice a n cap, .bool nt] 53)).heap.size (w.alloc (.cells #[.string kd, .slice a n cap, .bool nt] 53)) wr) (fun i _ => n - (intOf i).toNat)
  case atStart => exact ⟨0, Nat.zero_le _, rfl, fun j hj => absurd hj (Nat.not_lt_zero _), Below.refl _ _⟩
  case round =>
    obtain ⟨k, hk, rfl, hall, hbel⟩ := hrel
    have HA := hide hall
    clear hall
    have HP2 := hide (box_below HP.out hbel (by simp))
    have p0 := boxk_cell HP2.out 0 _ rfl
    have p1 := boxk_cell HP2.out 1 _ rfl
    by_cases hlt : k < n
    · obtain ⟨b, off, hab, hbw, hc⟩ := RdArg.cells (hr.below b0) (by rw [← HN.out]; omega)
      obtain ⟨c0, c1, c2, c3, c4⟩ := hc k (by rw [← HN.out]; exact hlt)
      clear hc
      subst hab
      rw [← hbel.cell (p := ⟨b, off + k * 5, none⟩) hbw] at c0
      rw [← hbel.cell (p := ⟨b, off + k * 5 + 1, none⟩) hbw] at c1
      rw [← hbel.cell (p := ⟨b, off + k * 5 + 2, none⟩) hbw] at c2
      rw [← hbel.cell (p := ⟨b, off + k * 5 + 3, none⟩) hbw] at c3
      rw [← hbel.cell (p := ⟨b, off + k * 5 + 4, none⟩) hbw] at c4
      have hS : (eAt L k).fits := by rw [eAt_in (by rw [← HN.out]; exact hlt)]; exact HS.out _ (List.getElem_mem _)
      obtain ⟨hS0, hS1⟩ := hS
      go_wp2_with fail
      refine (specArgOk_any _ _ _ _ _ _ hS0 hS1).mono ?_
      rintro e w2 ⟨rfl, hb2⟩
      have hbel2 := hbel.trans (hb2.mono hbel.size)
      clear hb2 hS0 hS1 c0 c1 c2 c3 c4 hbel p0 p1 HP2
      have hBe := b0.trans (hbel2.mono b0.size)
      cases hv : argB (eAt L k).K (eAt L k).S (eAt L k).V
      · have HV := hide (allA_no (by rw [← HN.out]; exact hlt) hv)
        clear hv
        go_wp2
        go_ret
        exact ⟨ret_bool (by rw [HF.out, HV.out, Bool.and_false]), hBe⟩
      · have HV := hide hv
        clear hv
        go_wp2
        go_roundw
        case rel => exact ⟨k + 1, by omega, by go_num, fun j hj => by
            by_cases hjk : j = k
            · rw [hjk]; exact HV.out
            · exact HA.out j (by omega), hbel2⟩
        case measure => simp [intOf]; omega
    · have HV : Hid (L.all A5.ok = true) := allA_yes (fun j hj => HA.out j (by rw [← HN.out] at hj; omega))
      have hBe := b0.trans (hbel.mono b0.size)
      have HD : Hid (decide ((n : Int) ≤ 5) = decide (n ≤ 5)) := by unfold Hid; exact decide_eq_decide.2 (by omega)
      rw [HV.out, Bool.and_true] at HF
      clear HP2
      cases hn : nameB kd
      · rw [hn] at HF
        go_wp2_with (go_at_call 52; refine (specNameOk_any _ _ hkd).mono ?_; rintro e w' ⟨rfl, rfl⟩; rw [hn])
        go_ret
        exact ⟨ret_bool HF.out.symm, hBe⟩
      · rw [hn] at HF
        go_wp2_with (go_at_call 52; refine (specNameOk_any _ _ hkd).mono ?_; rintro e w' ⟨rfl, rfl⟩; rw [hn])
        go_ret
        exact ⟨ret_bool (by rw [HF.out, Bool.true_and]; exact HD.out), hBe⟩

set_option maxRecDepth 100000 in
set_option maxHeartbeats 1600000 in
theorem listA_any (a : Option Addr) (cap : Nat) (L : List A5) (w : World) (hr : RdArg w a L) (hs : ∀ x ∈ L, x.fits) (hm : L.length ≤ 1048580) :
    Calls Tryd.prog 112 #[.slice a L.length cap, .int .i64 0, .int .i64 5, .func (.func 31) #[] #[]] w fun e w' =>
      e = .returned (.bool (decide (L.length ≤ 5) && L.all A5.ok)) ∧ Below w.heap.size w w' := by
  obtain ⟨n, hN⟩ : ∃ n, n = L.length := ⟨_, rfl⟩
  rw [← hN] at hm ⊢
  have HN := hide hN
  have HS := hide hs
  clear hN hs
  by_cases h5 : n ≤ 5
  · have HF : Hid ((decide (n ≤ 5) && L.all A5.ok) = L.all A5.ok) := by unfold Hid; rw [decide_eq_true h5]; rfl
    go_enter Tryd.func112, Tryd.ntmps112
    go_wp2
    go_loopw [23] (fun i wr => ∃ (k : Nat), k ≤ n ∧ i = .int .i64 k ∧ (∀ j, j < k → argB (eAt L j).K (eAt L j).S (eAt L j).V = true) ∧ Below w.heap.size w wr) (fun i _ => n - (intOf i).toNat)
    case atStart => exact ⟨0, Nat.zero_le _, rfl, fun j hj => absurd hj (Nat.not_lt_zero _), Below.refl _ _⟩
    case round =>
      obtain ⟨k, hk, rfl, hall, hbel⟩ := hrel
      have HA := hide hall
      clear hall
      by_cases hlt : k < n
      · obtain ⟨b, off, hab, hbw, hc⟩ := RdArg.cells hr (by rw [← HN.out]; omega)
        obtain ⟨c0, c1, c2, c3, c4⟩ := hc k (by rw [← HN.out]; exact hlt)
        clear hc
        subst hab
        rw [← hbel.cell (p := ⟨b, off + k * 5, none⟩) hbw] at c0
        rw [← hbel.cell (p := ⟨b, off + k * 5 + 1, none⟩) hbw] at c1
        rw [← hbel.cell (p := ⟨b, off + k * 5 + 2, none⟩) hbw] at c2
        rw [← hbel.cell (p := ⟨b, off + k * 5 + 3, none⟩) hbw] at c3
        rw [← hbel.cell (p := ⟨b, off + k * 5 + 4, none⟩) hbw] at c4
        have hS : (eAt L k).fits := by rw [eAt_in (by rw [← HN.out]; exact hlt)]; exact HS.out _ (List.getElem_mem _)
        obtain ⟨hS0, hS1⟩ := hS
        have hbel1 := hbel.alloc hbel.size (.cells #[.int .i64 (eAt L k).K, .string (eAt L k).S, .int .i64 (eAt L k).V.K, .int .i64 (eAt L k).V.N, .string (eAt L k).V.S] 39)
        go_wp2_with fail
        refine (implArgOk_any _ _ _ _ _ _ hS0 hS1).mono ?_
        rintro e w2 ⟨rfl, hb2⟩
        have hbel2 : Below w.heap.size w w2 := hbel1.trans (hb2.mono hbel1.size)
        clear hb2 hS0 hS1 c0 c1 c2 c3 c4 hbel hbel1
        cases hv : argB (eAt L k).K (eAt L k).S (eAt L k).V
        · have HV := hide (allA_no (by rw [← HN.out]; exact hlt) hv)
          clear hv
          go_wp2
          go_ret
          exact ⟨ret_bool (by rw [HF.out, HV.out]), hbel2⟩
        · have HV := hide hv
          clear hv
          go_wp2
          go_roundw
          case rel => exact ⟨k + 1, by omega, by go_num, fun j hj => by
              by_cases hjk : j = k
              · rw [hjk]; exact HV.out
              · exact HA.out j (by omega), hbel2⟩
          case measure => simp [intOf]; omega
      · have HV : Hid (L.all A5.ok = true) := allA_yes (fun j hj => HA.out j (by rw [← HN.out] at hj; omega))
        go_wp2
        go_ret
        exact ⟨ret_bool (by rw [HF.out, HV.out]), hbel⟩
  · have HF : Hid ((decide (n ≤ 5) && L.all A5.ok) = false) := by unfold Hid; rw [decide_eq_false h5]; rfl
    have hn : (5 : Int) < (n : Int) := by omega
    go_enter Tryd.func112, Tryd.ntmps112
    go_wp2
    go_ret
    exact ⟨ret_bool HF.out.symm, Below.refl _ _⟩

set_option maxRecDepth 100000 in
set_option maxHeartbeats 1600000 in
theorem namedA_any (kd : ByteArray) (a : Option Addr) (cap : Nat) (L : List A5) (w : World) (hkd : kd.size ≤ maxLen) (hr : RdArg w a L) (hs : ∀ x ∈ L, x.fits) (hm : L.length ≤ 1048580) :
    Calls Tryd.prog 70 #[.string kd, .slice a L.length cap, .func (.func 31) #[] #[]] w fun e w' =>
      e = .returned (.bool (patB kd L)) ∧ Below w.heap.size w w' := by
  have HF : Hid (patB kd L = (nameB kd && (decide (L.length ≤ 5) && L.all A5.ok))) := by unfold Hid patB; rw [Bool.and_assoc]
  cases hn : nameB kd
  · rw [hn] at HF
    go_enter Tryd.func70, Tryd.ntmps70
    go_wp2_with (go_at_call 51; refine (implNameOk_any _ _ hkd).mono ?_; rintro e w' ⟨rfl, rfl⟩)
    go_ret
    exact ⟨ret_bool HF.out.symm, Below.refl _ _⟩
  · rw [hn] at HF
    go_enter Tryd.func70, Tryd.ntmps70
    go_wp2_with fail
    refine (implNameOk_any _ _ hkd).mono ?_
    rintro e w' ⟨rfl, rfl⟩
    go_wp2_with fail
    refine (listA_any a cap L _ hr hs hm).mono ?_
    rintro e w1 ⟨rfl, hb⟩
    generalize (decide (L.length ≤ 5) && L.all A5.ok) = r at HF ⊢
    go_wp2
    go_ret
    exact ⟨ret_bool (by rw [HF.out]; rfl), hb⟩

set_option maxRecDepth 100000 in
set_option maxHeartbeats 1600000 in
theorem implPatOk_any (kd : ByteArray) (a : Option Addr) (cap : Nat) (L : List A5) (nt : Bool) (w : World) (hkd : kd.size ≤ maxLen) (hr : RdArg w a L) (hs : ∀ x ∈ L, x.fits) (hm : L.length ≤ 1048580) :
    Calls Tryd.prog 29 #[.agg #[.string kd, .slice a L.length cap, .bool nt]] w fun e w' =>
      e = .returned (.bool (patB kd L)) ∧ Below w.heap.size w w' := by
  have b0 := below_al w (.cells #[.string kd, .slice a L.length cap, .bool nt] 53)
  go_enter Tryd.func29, Tryd.ntmps29
  go_wp2_with fail
  refine (namedA_any kd a cap L _ hkd (hr.below b0) hs hm).mono ?_
  rintro e w1 ⟨rfl, hb⟩
  have hB : Below w.heap.size w w1 := b0.trans (hb.mono b0.size)
  go_wp2
  go_ret
  exact ⟨rfl, hB⟩
end Go.Proofs.YtaflokfgbmlmaacDoor
/-
  What the text of a pattern is: a sign where it is Not, its kind, and the texts of its arguments between brackets; the model's.
-/
namespace Go.Proofs.YtaflokfgbmlmaacDoor
open Go.RowKit
set_option linter.unusedVariables false

/-- the texts with a comma and a blank between -/
def joinA (L : List A5) : List UInt8 := Lib.join (L.map fun v => v.tx.data.toList) [44, 32]
theorem joinA_nil : joinA [] = [] := rfl
theorem joinA_snoc (L : List A5) (v : A5) : joinA (L ++ [v]) = if L = [] then v.tx.data.toList else joinA L ++ (44 :: 32 :: v.tx.data.toList) := by
  unfold joinA Lib.join
  induction L with
  | nil => simp [List.intercalate]
  | cons a r ih =>
    rw [if_neg (by simp)]
    cases r with
    | nil => simp [List.intercalate]
    | cons b s =>
      rw [if_neg (by simp)] at ih
      simp only [List.map_append, List.map_cons, List.map_nil, List.cons_append] at ih ⊢
      have e : ∀ (p q : List UInt8) (t : List (List UInt8)), List.intercalate [44, 32] (p :: q :: t) = p ++ (44 :: 32 :: List.intercalate [44, 32] (q :: t)) := fun p q t => by simp [List.intercalate, List.intersperse]
      rw [e, e, ih]
      simp
theorem joinA_take {L : List A5} (h : ∀ v ∈ L, v.ok = true) : ∀ k, k ≤ L.length → (joinA (L.take k)).length ≤ 24 * k
  | 0, _ => by simp [joinA_nil]
  | k + 1, hk => by
    have ih := joinA_take h k (by omega)
    have h2 := txA_size (h L[k] (List.getElem_mem (by omega)))
    have e : L[k].tx.data.toList.length = L[k].tx.size := by rw [Array.length_toList]; rfl
    rw [List.take_succ_eq_append_getElem (by omega), joinA_snoc]
    split
    · omega
    · simp only [List.length_append, List.length_cons]; omega
theorem joinA_le {L : List A5} (h : ∀ v ∈ L, v.ok = true) : (joinA L).length ≤ 24 * L.length := by
  have := joinA_take h L.length (Nat.le_refl _)
  rwa [List.take_length] at this
def notT (nt : Bool) (t : ByteArray) : ByteArray := if nt then ⟨#[33]⟩ ++ t else t
def patT (kd : ByteArray) (L : List A5) (nt : Bool) : ByteArray := if patB kd L then notT nt (kd ++ ⟨#[40]⟩) ++ ⟨(joinA L).toArray⟩ ++ ⟨#[41]⟩ else ⟨#[]⟩
theorem patT_no {kd : ByteArray} {L : List A5} {nt : Bool} (h : patB kd L = false) : patT kd L nt = ⟨#[]⟩ := by unfold patT; rw [if_neg (by rw [h]; simp)]
theorem patT_yes {kd : ByteArray} {L : List A5} {nt : Bool} (h : patB kd L = true) : patT kd L nt = notT nt (kd ++ ⟨#[40]⟩) ++ ⟨(joinA L).toArray⟩ ++ ⟨#[41]⟩ := by unfold patT; rw [if_pos h]
theorem patB_open {kd : ByteArray} {L : List A5} (h : patB kd L = true) : nameB kd = true ∧ L.length ≤ 5 ∧ ∀ v ∈ L, v.ok = true := by
  unfold patB at h
  simp only [Bool.and_eq_true, decide_eq_true_eq, List.all_eq_true] at h
  exact ⟨h.1.1, h.1.2, h.2⟩
theorem nameP_size {s : ByteArray} (h : nameB s = true) : s.size ≤ 12 := by
  unfold nameB inB at h
  simp only [Bool.and_eq_true, decide_eq_true_eq] at h
  omega

set_option maxRecDepth 100000 in
set_option maxHeartbeats 3200000 in
theorem specPatText_any (kd : ByteArray) (a : Option Addr) (cap : Nat) (L : List A5) (nt : Bool) (w : World) (hkd : kd.size ≤ maxLen) (hr : RdArg w a L) (hs : ∀ x ∈ L, x.fits) (hm : L.length ≤ 1048580) :
    Calls Tryd.prog 21 #[.agg #[.string kd, .slice a L.length cap, .bool nt]] w fun e w' =>
      e = .returned (.string (patT kd L nt)) ∧ Below w.heap.size w w' := by
  have b0 := below_al w (.cells #[.string kd, .slice a L.length cap, .bool nt] 53)
  have hP := boxk_new w #[.string kd, .slice a L.length cap, .bool nt] 53
  go_enter Tryd.func21, Tryd.ntmps21
  go_wp2_with fail
  refine (specPatOk_any kd a cap L nt _ hkd (hr.below b0) hs hm).mono ?_
  rintro e w1 ⟨rfl, hb1⟩
  have HP := hide (box_below hP hb1 (by simp))
  have hB1 : Below w.heap.size w w1 := b0.trans (hb1.mono b0.size)
  have hz1 : w.heap.size < w1.heap.size := Nat.lt_of_lt_of_le (by simp) hb1.size
  clear hb1 b0 hP
  cases hv : patB kd L
  · have HV := hide (patT_no (nt := nt) hv)
    clear hv
    go_wp2
    go_ret
    exact ⟨by rw [HV.out]; rfl, hB1⟩
  · obtain ⟨hn, h5, hok⟩ := patB_open hv
    have HV := hide (patT_yes (nt := nt) hv)
    have HOk := hide hok
    have hkn := nameP_size hn
    clear hv hok hn hm
    obtain ⟨n, hN⟩ : ∃ n, n = L.length := ⟨_, rfl⟩
    obtain ⟨p0, p1, p2, -, -, -⟩ := box_cell HP.out
    rw [← hN] at h5 HP p1 ⊢
    have HN := hide hN
    clear hN
    have c40 : (ByteArray.mk #[40]).size = 1 := rfl
    have c41 : (ByteArray.mk #[41]).size = 1 := rfl
    have c33 : (ByteArray.mk #[33]).size = 1 := rfl
    have c44 : (ByteArray.mk #[44, 32]).size = 2 := rfl
    obtain ⟨pre, hpre⟩ : ∃ pre, pre = notT nt (kd ++ ⟨#[40]⟩) := ⟨_, rfl⟩
    have hps : pre.size ≤ 14 := by
      rw [hpre]; unfold notT
      cases nt
      · simp only [Bool.false_eq_true, if_false, ByteArray.size_append, c40]; omega
      · simp only [if_true, ByteArray.size_append, c40, c33]; omega
    rw [← hpre] at HV
    have HPre := hide hpre
    have hk1 : (kd ++ ⟨#[40]⟩ : ByteArray).size = kd.size + 1 := by rw [ByteArray.size_append, c40]
    have HLoop : Hid (∀ (Q : Exit → Act → World → Prop), True) := fun _ => trivial
    clear hpre HLoop
    cases nt
    all_goals
      rw [show notT _ (kd ++ (⟨#[40]⟩ : ByteArray)) = _ from rfl] at HPre
      go_wp2
      go_loopw [3, 4] (fun s i wr => ∃ (k : Nat) (t : ByteArray), k ≤ n ∧ i = .int .i64 k ∧ s = .string t ∧ t.size ≤ 14 + 24 * k ∧ t = pre ++ ⟨(joinA (L.take k)).toArray⟩ ∧ Below w1.heap.size w1 wr) (fun _ i _ => n - (intOf i).toNat)
      case atStart =>
        refine ⟨0, pre, Nat.zero_le _, rfl, ?_, by omega, by rw [List.take_zero, joinA_nil]; apply ByteArray.ext; apply Array.toList_inj.1; simp, Below.refl _ _⟩
        rw [HPre.out]
        rfl
      case round =>
        clear p0 p1 p2
        obtain ⟨k, t, hk, rfl, rfl, hts, ht, hbel⟩ := hrel
        have HT := hide ht
        clear ht
        have hB : Below w.heap.size w wr := hB1.trans (hbel.mono hB1.size)
        have p1 := boxk_cell (box_below HP.out hbel hz1) 1 _ rfl
        by_cases hlt : k < n
        · obtain ⟨b, off, hab, hbw, hc⟩ := RdArg.cells (hr.below hB) (by rw [← HN.out]; omega)
          obtain ⟨c0, c1, c2, c3, c4⟩ := hc k (by rw [← HN.out]; exact hlt)
          clear hc
          subst hab
          have hv : (eAt L k).ok = true := by rw [eAt_in (by rw [← HN.out]; exact hlt)]; exact HOk.out _ (List.getElem_mem _)
          have hxs := txA_size hv
          have HTake : Hid (L.take (k + 1) = L.take k ++ [eAt L k]) := by unfold Hid; rw [List.take_succ_eq_append_getElem (by rw [← HN.out]; exact hlt), eAt_in]
          have HVx := hide (fun W => l6ArgText_any (eAt L k).K (eAt L k).S (eAt L k).V W hv)
          rw [show argT (eAt L k).K (eAt L k).S (eAt L k).V = (eAt L k).tx from rfl] at HVx
          by_cases h0 : k = 0
          · subst h0
            have HJ : Hid (t ++ (eAt L 0).tx = pre ++ ⟨(joinA (L.take 1)).toArray⟩) := by
              unfold Hid
              have h1 := HTake.out
              rw [Nat.zero_add, List.take_zero, List.nil_append] at h1
              rw [h1, HT.out, List.take_zero, joinA_nil]
              have e : joinA [eAt L 0] = (eAt L 0).tx.data.toList := by have := joinA_snoc [] (eAt L 0); simpa using this
              rw [e]
              apply ByteArray.ext; apply Array.toList_inj.1; simp
            simp only [Nat.zero_mul, Nat.add_zero] at c0 c1 c2 c3 c4
            generalize (eAt L 0).tx = x at hxs HVx HJ
            have hts1 : t.size ≤ 14 := by omega
            clear hv hts
            go_wp2_with fail
            refine (HVx.out _).mono ?_
            rintro e w2 ⟨rfl, hb2⟩
            have hbel2 : Below w1.heap.size w1 w2 := hbel.trans (hb2.mono hbel.size)
            clear hb2 hbel c0 c1 c2 c3 c4 p1 hB
            go_wp2
            go_roundw
            case rel => exact ⟨1, t ++ x, by omega, by go_num, rfl, by rw [ByteArray.size_append]; omega, HJ.out, hbel2⟩
            case measure => simp [intOf]; omega
          · have hne : L.take k ≠ [] := fun e => by have := congrArg List.length e; rw [List.length_take, List.length_nil] at this; have := HN.out; omega
            have HJ : Hid (t ++ ⟨#[44, 32]⟩ ++ (eAt L k).tx = pre ++ ⟨(joinA (L.take (k + 1))).toArray⟩) := by
              unfold Hid
              rw [HTake.out, joinA_snoc, if_neg hne, HT.out]
              apply ByteArray.ext; apply Array.toList_inj.1; simp
            generalize (eAt L k).tx = x at hxs HVx HJ
            have hkp : (0 : Int) < (k : Int) := by omega
            clear hv hne h0
            go_wp2_with fail
            refine (HVx.out _).mono ?_
            rintro e w2 ⟨rfl, hb2⟩
            have hbel2 : Below w1.heap.size w1 w2 := hbel.trans (hb2.mono hbel.size)
            have hsz2 : (t ++ ⟨#[44, 32]⟩ : ByteArray).size = t.size + 2 := by rw [ByteArray.size_append, c44]
            clear hb2 hbel c0 c1 c2 c3 c4 p1 hB
            go_wp2
            go_roundw
            case rel => exact ⟨k + 1, t ++ ⟨#[44, 32]⟩ ++ x, by omega, by go_num, rfl, by rw [ByteArray.size_append, hsz2]; omega, HJ.out, hbel2⟩
            case measure => simp [intOf]; omega
        · obtain rfl : k = n := by omega
          have HT2 : Hid (t = pre ++ ⟨(joinA L).toArray⟩) := by
            have := HT.out
            rw [HN.out, List.take_length] at this
            exact this
          go_wp2
          go_ret
          exact ⟨by rw [HV.out, ← HT2.out]; rfl, hB⟩
end Go.Proofs.YtaflokfgbmlmaacDoor
/-
  What the tested function answers for an argument's text: argT.
-/
namespace Go.Proofs.YtaflokfgbmlmaacDoor
open Go.RowKit
set_option linter.unusedVariables false

set_option maxRecDepth 100000 in
set_option maxHeartbeats 1600000 in
theorem argText_any (K : Int) (S : ByteArray) (V : V3) (w : World) (hs : S.size ≤ maxLen) (hv : V.S.size ≤ maxLen) (ht : Tab w) :
    Calls Tryd.prog 57 #[.agg #[.int .i64 K, .string S, .int .i64 V.K, .int .i64 V.N, .string V.S]] w fun e w' => e = .returned (.string (argT K S V)) ∧ Below w.heap.size w w' := by
  have b0 := below_al w (.cells #[.int .i64 K, .string S, .int .i64 V.K, .int .i64 V.N, .string V.S] 39)
  have HTab := hide (ht.later b0 (Nat.le_refl _))
  clear ht
  by_cases h1 : K = 1
  · subst h1
    go_enter Tryd.func57, Tryd.ntmps57
    go_wp2
    go_ret
    exact ⟨rfl, b0⟩
  · have k1 : (K == 1) = false := by simpa using h1
    by_cases h2 : K = 2
    · subst h2
      go_enter Tryd.func57, Tryd.ntmps57
      go_wp2_with fail
      refine (implValText_any _ _ _ _ hv HTab.out).mono ?_
      rintro e w1 ⟨rfl, hb⟩
      have B1 : Below w.heap.size w w1 := b0.trans (hb.mono b0.size)
      go_wp2
      go_ret
      exact ⟨rfl, B1⟩
    · have k2 : (K == 2) = false := by simpa using h2
      have HR : Hid (argT K S V = ⟨#[95]⟩) := by unfold Hid argT; rw [if_neg h1, if_neg h2]
      clear h1 h2
      go_enter Tryd.func57, Tryd.ntmps57
      go_wp2
      go_ret
      exact ⟨by rw [HR.out]; rfl, b0⟩
end Go.Proofs.YtaflokfgbmlmaacDoor
/-
  What the tested function answers for a pattern's text: patT.
-/
namespace Go.Proofs.YtaflokfgbmlmaacDoor
open Go.RowKit
set_option linter.unusedVariables false

theorem infoSA : (Tryd.prog.info? 9).map (fun i => (i.zero, i.size, i.bytes)) = some (some (.string ⟨#[]⟩), 1, 16) := by kernel_rfl
def cellsA (L : List A5) : List Value := L.map fun v => .string v.tx
theorem cellsA_snoc (L : List A5) (v : A5) : cellsA L ++ [.string v.tx] = cellsA (L ++ [v]) := by simp [cellsA]
def txsA (L : List A5) : List ByteArray := L.map A5.tx
theorem txsA_join (L : List A5) : Lib.join ((txsA L).map (·.data.toList)) (ByteArray.mk #[44, 32]).data.toList = joinA L := by
  unfold txsA joinA
  rw [List.map_map]
  rfl
theorem own_txsA {W : World} {base g c n : Nat} {L : List A5} (h : W.ownsRow base 9 1 (.slice (some ⟨g, 0, none⟩) n c) n (cellsA L)) :
    ∀ (j : Nat) x, (txsA L)[j]? = some x → W.cell? ⟨g, 0 + j, none⟩ = some (.string x) := by
  intro j x hj
  have := h.cells (g := g) rfl j (.string x) (by unfold txsA at hj; unfold cellsA; rw [List.getElem?_map] at hj ⊢; cases hq : L[j]? with
    | none => rw [hq] at hj; cases hj
    | some v => rw [hq] at hj; simp at hj ⊢; exact hj)
  rwa [Addr.add_lit] at this
theorem own_ltA {W : World} {base g c n : Nat} {T : TypeId} {xs : List Value} (h : W.ownsRow base T 1 (.slice (some ⟨g, 0, none⟩) n c) n xs) : g < W.heap.size ∧ n ≤ c := by
  refine ⟨(h.lt g rfl).2, ?_⟩
  rcases h.2 with ⟨h1, _⟩ | ⟨g', cap', cur, h1, hb', hh, hnc, _⟩
  · simp at h1
  · simp only [Value.slice.injEq] at h1; omega
theorem ret_strA {a b : ByteArray} (h : a = b) : Ending.returned (.string a) = .returned (.string b) := by rw [h]
theorem src1A (W : World) (x : ByteArray) : ∀ j u, ([.string x] : List Value)[j]? = some u → (W.alloc (.cells #[.string x] 9)).cell? ((⟨W.heap.size, 0, none⟩ : Addr).add j) = some u := by
  intro j u hj
  rw [Addr.add_lit, Nat.zero_add]
  have hb : (W.alloc (.cells #[.string x] 9)).heap[W.heap.size]? = some (.cells #[.string x] 9 (0, 0)) := by rw [heap_alloc_new]
  match j, hj with
  | 0, hj => rw [cell_of_row _ _ 0 _ _ (0, 0) hb]; simpa using hj
theorem one1A (x : ByteArray) : ∀ u ∈ ([.string x] : List Value), u.oneCell' = true := by
  intro u hu
  simp only [List.mem_cons, List.not_mem_nil, or_false] at hu
  rw [hu]; rfl
theorem keepTA {w0 W w' : World} {B : Nat} {p0 p1 p2 : Addr} {v0 v1 v2 : Value} {a : Option Addr} {L : List A5} (hb : Below W.heap.size W w')
    (h : W.cell? p0 = some v0 ∧ W.cell? p1 = some v1 ∧ W.cell? p2 = some v2 ∧ RdArg W a L ∧ Below B w0 W ∧ B ≤ W.heap.size) :
    w'.cell? p0 = some v0 ∧ w'.cell? p1 = some v1 ∧ w'.cell? p2 = some v2 ∧ RdArg w' a L ∧ Below B w0 w' ∧ B ≤ w'.heap.size := by
  obtain ⟨h0, h1, h2, h3, h4, h5⟩ := h
  have k : ∀ {a : Addr} {v : Value}, W.cell? a = some v → w'.cell? a = some v := fun {a v} h => by rw [hb.cell (World.block_lt_of_cell? W _ h)]; exact h
  exact ⟨k h0, k h1, k h2, h3.below hb, h4.trans (hb.mono h5), Nat.le_trans h5 hb.size⟩
theorem rdTA {w0 W : World} {B : Nat} {p0 p1 p2 : Addr} {v0 v1 v2 : Value} {a : Option Addr} {L : List A5}
    (h : W.cell? p0 = some v0 ∧ W.cell? p1 = some v1 ∧ W.cell? p2 = some v2 ∧ RdArg W a L ∧ Below B w0 W ∧ B ≤ W.heap.size) : RdArg W a L := h.2.2.2.1
theorem belTA {w0 W : World} {B : Nat} {p0 p1 p2 : Addr} {v0 v1 v2 : Value} {a : Option Addr} {L : List A5}
    (h : W.cell? p0 = some v0 ∧ W.cell? p1 = some v1 ∧ W.cell? p2 = some v2 ∧ RdArg W a L ∧ Below B w0 W ∧ B ≤ W.heap.size) : Below B w0 W := h.2.2.2.2.1

set_option maxRecDepth 100000 in
set_option maxHeartbeats 3200000 in
theorem joinArgs_any (a : Option Addr) (cap : Nat) (L : List A5) (sep : ByteArray) (w : World) (hr : RdArg w a L) (hs : ∀ v ∈ L, v.fits) (hm : L.length ≤ 5) (ht : Tab w) (hlen : (Lib.join ((txsA L).map (·.data.toList)) sep.data.toList).length ≤ 140737488355328) :
    Calls Tryd.prog 102 #[.slice a L.length cap, .func (.func 57) #[] #[], .string sep] w fun e w' =>
      e = .returned (.string ⟨(Lib.join ((txsA L).map (·.data.toList)) sep.data.toList).toArray⟩) ∧ Below w.heap.size w w' := by
  obtain ⟨i0, hi, hz0, hz1, hz2⟩ := info_parts infoSA
  have HTab := hide ht
  have HS := hide hs
  have HL := hide hlen
  clear ht hs hlen
  obtain ⟨n, hN⟩ : ∃ n, n = L.length := ⟨_, rfl⟩
  rw [← hN] at hm ⊢
  have HN := hide hN
  clear hN
  have hz3 : (i0.bytes * n) = 16 * n := by rw [hz2]
  go_enter Tryd.func102, Tryd.ntmps102
  go_wp2_with (at_make; refine wpList_make_own _ rfl _ _ 58 rfl w.heap.size 9 i0 (.string ⟨#[]⟩) 1 Tryd.underlying58 hi hz0 hz1 _ _ _ n rfl rfl (by omega) ?b2 ?b3 (Nat.le_refl _) ?_)
  case b2 => rw [hz2]; omega
  case b3 => unfold maxLen; omega
  intro w2 ho2 hg2
  have b2 : Below w.heap.size w w2 := below_gn' hg2
  clear hg2
  go_wp2
  go_loopw [7, 15] (fun v i wr => ∃ (k g c : Nat), k ≤ n ∧ i = .int .i64 k ∧ v = .slice (some ⟨g, 0, none⟩) k c ∧ wr.ownsRow w.heap.size 9 1 (.slice (some ⟨g, 0, none⟩) k c) k (cellsA (L.take k)) ∧ Below w.heap.size w wr) (fun _ i _ => n - (intOf i).toNat)
  case atStart => exact ⟨0, w.heap.size, n, Nat.zero_le _, rfl, rfl, by rw [List.take_zero]; exact ho2, b2⟩
  case round =>
    clear ho2 b2
    obtain ⟨k, g, c, hk, rfl, rfl, hown, hbel⟩ := hrel
    by_cases hlt : k < n
    · have hlL : k < L.length := by rw [← HN.out]; exact hlt
      obtain ⟨b, off, hab, hbw, hc⟩ := RdArg.cells hr (by omega)
      obtain ⟨c0, c1, c2, c3, c4⟩ := hc k hlL
      clear hc
      subst hab
      rw [← hbel.cell (p := ⟨b, off + k * 5, none⟩) hbw] at c0
      rw [← hbel.cell (p := ⟨b, off + k * 5 + 1, none⟩) hbw] at c1
      rw [← hbel.cell (p := ⟨b, off + k * 5 + 2, none⟩) hbw] at c2
      rw [← hbel.cell (p := ⟨b, off + k * 5 + 3, none⟩) hbw] at c3
      rw [← hbel.cell (p := ⟨b, off + k * 5 + 4, none⟩) hbw] at c4
      have HTake : Hid (cellsA (L.take k) ++ [.string (eAt L k).tx] = cellsA (L.take (k + 1))) := by unfold Hid; rw [cellsA_snoc, List.take_succ_eq_append_getElem hlL, eAt_in]
      have hS : (eAt L k).fits := by rw [eAt_in hlL]; exact HS.out _ (List.getElem_mem _)
      rw [show (eAt L k).tx = argT (eAt L k).K (eAt L k).S (eAt L k).V from rfl] at HTake
      generalize eAt L k = xx at c0 c1 c2 c3 c4 HTake hS
      obtain ⟨K, S, V⟩ := xx
      obtain ⟨hS0, hS1⟩ := hS
      simp only at c0 c1 c2 c3 c4 HTake hS0 hS1
      have bA : Below w.heap.size w (wr.alloc (.cells #[.int .i64 K, .string S, .int .i64 V.K, .int .i64 V.N, .string V.S] 39)) := hbel.alloc hbel.size _
      have hoA := hown.alloc (.cells #[.int .i64 K, .string S, .int .i64 V.K, .int .i64 V.N, .string V.S] 39)
      have HTA : Hid (Tab (wr.alloc (.cells #[.int .i64 K, .string S, .int .i64 V.K, .int .i64 V.N, .string V.S] 39))) := HTab.out.later bA (Nat.le_refl _)
      go_wp2_with fail
      refine (argText_any K S V _ hS0 hS1 HTA.out).mono ?_
      rintro e w3 ⟨rfl, hb3⟩
      generalize argT K S V = x at HTake
      have bel3 : Below w.heap.size w w3 := bA.trans (hb3.mono bA.size)
      have HO4 := hide ((ownsRow_below' hoA hb3).alloc (.cells #[.string x] 9))
      have HB4 := hide (bel3.alloc bel3.size (.cells #[.string x] 9))
      have HSrc := hide (src1A w3 x)
      clear hb3 hbel hown hoA bA HTA c0 c1 c2 c3 c4 bel3
      go_wp2_with (at_builtin; refine wpList_append_lies _ rfl (.tmp 19) (.tmp 23) 58 rfl w.heap.size 9 i0 (.string ⟨#[]⟩) 1 16 Tryd.underlying58 hi hz0 hz1 hz2 rfl (by omega) (.slice (some ⟨g, 0, none⟩) k c) k (cellsA (L.take k)) rfl HO4.out ⟨w3.heap.size, 0, none⟩ 1 1 [.string x] ?hx rfl HSrc.out (one1A x) (by omega) (by unfold maxLen; omega) (by omega) HB4.out.size _ rfl ?_)
      case hx => simp [Act.eval]
      intro g5 c5 w5 ho5 hg5 hat5 hlt5
      have HO5 : Hid (w5.ownsRow w.heap.size 9 1 (.slice (some ⟨g5, 0, none⟩) (k + 1) c5) (k + 1) (cellsA (L.take (k + 1)))) := by
        unfold Hid
        rw [← HTake.out]
        exact ho5
      have HB5 := hide (HB4.out.grown hg5 HB4.out.size (fun k hk => (HO4.out.lt k hk).1))
      clear ho5 hg5 hat5 hlt5 HO4 HSrc HB4
      go_wp2
      go_roundw
      case rel => exact ⟨k + 1, g5, c5, by omega, by go_num, rfl, HO5.out, HB5.out⟩
      case measure => simp [intOf]; omega
    · obtain rfl : k = n := by omega
      have HO : Hid (wr.ownsRow w.heap.size 9 1 (.slice (some ⟨g, 0, none⟩) k c) k (cellsA L)) := by
        have := hown
        rw [HN.out, List.take_length, ← HN.out] at this
        exact this
      have hcs := own_txsA HO.out
      obtain ⟨hgl, hkc⟩ := own_ltA HO.out
      have htl : (txsA L).length = k := by unfold txsA; rw [List.length_map, HN.out]
      have hjoin := Tryd.strings_Join g 0 c (txsA L) sep wr hcs hgl (by rw [htl]; omega) (by rw [htl]; exact hkc) HL.out
      rw [htl] at hjoin
      clear hown HO
      go_wp2_with fail
      refine hjoin.mono ?_
      rintro e w6 ⟨rfl, hb6⟩
      have B6 : Below w.heap.size w w6 := hbel.trans (hb6.mono hbel.size)
      go_wp2
      go_ret
      exact ⟨rfl, B6⟩

set_option maxRecDepth 100000 in
set_option maxHeartbeats 1600000 in
theorem namedTextA_any (kd : ByteArray) (a : Option Addr) (cap : Nat) (L : List A5) (sep y : ByteArray) (w : World) (hkd : kd.size ≤ 12) (hr : RdArg w a L) (hs : ∀ x ∈ L, x.fits) (hm : L.length ≤ 5) (ht : Tab w) (hy : y = ⟨(Lib.join ((txsA L).map (·.data.toList)) sep.data.toList).toArray⟩) (hlen : y.size ≤ 1000) :
    Calls Tryd.prog 62 #[.string kd, .slice a L.length cap, .func (.func 57) #[] #[], .string sep] w fun e w' =>
      e = .returned (.string (kd ++ ⟨#[40]⟩ ++ y ++ ⟨#[41]⟩)) ∧ Below w.heap.size w w' := by
  have hl2 : (Lib.join ((txsA L).map (·.data.toList)) sep.data.toList).length ≤ 1000 := by
    rw [hy] at hlen
    have h2 : (Lib.join ((txsA L).map (·.data.toList)) sep.data.toList).toArray.size ≤ 1000 := hlen
    simpa using h2
  have hj := joinArgs_any a cap L sep w hr hs hm ht (by omega)
  rw [← hy] at hj
  have HJ := hide hj
  clear hj hy
  have c40 : (ByteArray.mk #[40]).size = 1 := rfl
  have c41 : (ByteArray.mk #[41]).size = 1 := rfl
  have n0 : ¬ 9223372036854775807 < kd.size + 1 := by omega
  have m0 : kd.size + 1 ≤ 9223372036854775807 := by omega
  have n1 : ¬ 9223372036854775807 < kd.size + 1 + y.size := by omega
  have m1 : kd.size + 1 + y.size ≤ 9223372036854775807 := by omega
  have n2 : ¬ 9223372036854775807 < kd.size + 1 + y.size + 1 := by omega
  have m2 : kd.size + 1 + y.size + 1 ≤ 9223372036854775807 := by omega
  have n4 : ¬ 9223372036854775807 ≤ kd.size := by omega
  have m4 : kd.size < 9223372036854775807 := by omega
  have n5 : ¬ 9223372036854775807 ≤ kd.size + 1 + y.size := by omega
  have m5 : kd.size + 1 + y.size < 9223372036854775807 := by omega
  clear c40 c41
  go_enter Tryd.func62, Tryd.ntmps62
  go_wp2_with fail
  refine HJ.out.mono ?_
  rintro e w6 ⟨rfl, hb6⟩
  go_wp2
  go_ret
  exact ⟨ret_strA (by simp only [ByteArray.append_assoc]), hb6⟩

set_option maxRecDepth 100000 in
set_option maxHeartbeats 3200000 in
theorem implPatText_any (kd : ByteArray) (a : Option Addr) (cap : Nat) (L : List A5) (nt : Bool) (w : World) (hkd : kd.size ≤ maxLen) (hr : RdArg w a L) (hs : ∀ x ∈ L, x.fits) (hm : L.length ≤ 1048580) (ht : Tab w) :
    Calls Tryd.prog 23 #[.agg #[.string kd, .slice a L.length cap, .bool nt]] w fun e w' =>
      e = .returned (.string (patT kd L nt)) ∧ Below w.heap.size w w' := by
  have HTab := hide ht
  have HS := hide hs
  have b0 := below_al w (.cells #[.string kd, .slice a L.length cap, .bool nt] 53)
  have hX := boxk_new w #[.string kd, .slice a L.length cap, .bool nt] 53
  clear ht
  go_enter Tryd.func23, Tryd.ntmps23
  go_wp2_with fail
  refine (implPatOk_any kd a cap L nt _ hkd (hr.below b0) hs hm).mono ?_
  rintro e w1 ⟨rfl, hb1⟩
  have HX := hide (box_below hX hb1 (by simp))
  have hB1 : Below w.heap.size w w1 := b0.trans (hb1.mono b0.size)
  clear hb1 b0 hX hs
  cases hv : patB kd L
  · have HV := hide (patT_no (nt := nt) hv)
    clear hv
    go_wp2
    go_ret
    exact ⟨by rw [HV.out]; rfl, hB1⟩
  · obtain ⟨hn, h5, hok⟩ := patB_open hv
    have HV := hide (patT_yes (nt := nt) hv)
    have hkn := nameP_size hn
    have hjn := joinA_le hok
    clear hv hok hn hm
    obtain ⟨y, hy⟩ : ∃ y, y = (⟨(joinA L).toArray⟩ : ByteArray) := ⟨_, rfl⟩
    have hys : y.size ≤ 120 := by
      rw [hy]
      show (joinA L).toArray.size ≤ 120
      simp only [List.size_toArray]
      omega
    rw [← hy] at HV
    have HJ := hide (namedTextA_any kd a cap L ⟨#[44, 32]⟩ y w1 (by omega) (hr.below hB1) HS.out h5 (HTab.out.later hB1 (Nat.le_refl _)) (by rw [txsA_join]; exact hy) (by omega))
    obtain ⟨x0, x1, x2, -, -, -⟩ := box_cell HX.out
    have HXX := hide HX.out
    have c40 : (ByteArray.mk #[40]).size = 1 := rfl
    have c41 : (ByteArray.mk #[41]).size = 1 := rfl
    have HSz : Hid ((kd ++ ⟨#[40]⟩ ++ y ++ ⟨#[41]⟩ : ByteArray).size = kd.size + y.size + 2) := by unfold Hid; simp only [ByteArray.size_append, c40, c41]; omega
    clear hjn hy hr c40 c41
    go_wp2_with fail
    refine HJ.out.mono ?_
    rintro e w6 ⟨rfl, hb6⟩
    have hB6 : Below w.heap.size w w6 := hB1.trans (hb6.mono hB1.size)
    have t2 := boxk_cell (box_step HXX.out hb6) 2 _ rfl
    clear hb6 x0 x1 x2 HX HXX
    have hsz := HSz.out
    generalize hT : (kd ++ ⟨#[40]⟩ ++ y ++ ⟨#[41]⟩ : ByteArray) = tt at hsz ⊢
    have HT := hide hT
    clear hT
    cases nt
    · go_wp2
      go_ret
      exact ⟨ret_strA (by rw [HV.out, ← HT.out]; rfl), hB6⟩
    · go_wp2
      go_ret
      exact ⟨ret_strA (by rw [HV.out, ← HT.out]; unfold notT; simp only [if_true, ByteArray.append_assoc]), hB6⟩
end Go.Proofs.YtaflokfgbmlmaacDoor
/-
  The contracts of the laws' own markers on facts: markFact writes numbers and texts into a row of values of the calls' own and touches no other block that was there.
-/
namespace Go.Proofs.YtaflokfgbmlmaacDoor
open Go.RowKit
set_option linter.unusedVariables false

/-- the bytes of a mark's digits -/
def markL (fuel n : Nat) (r : List UInt8) : List UInt8 := match fuel with
  | 0 => r
  | f + 1 => if n = 0 then r else markL f (n / 10) (UInt8.ofNat (48 + n % 10) :: r)
def markT (k : Nat) : ByteArray := if k = 0 then ⟨#[109, 48]⟩ else ⟨#[109]⟩ ++ ⟨(markL 20 k []).toArray⟩
theorem markL_stop (n : Nat) (r : List UInt8) : ∀ f, n = 0 → markL f n r = r
  | 0, _ => rfl
  | f + 1, h => by unfold markL; rw [if_pos h]
theorem markL_step {f n : Nat} {r : List UInt8} (h : n ≠ 0) : markL (f + 1) n r = markL f (n / 10) (UInt8.ofNat (48 + n % 10) :: r) := by
  show (if n = 0 then _ else _) = _; rw [if_neg h]

theorem conv_1 (q : Nat) (c : UInt8) (d : Int) (hd : d = (c.toNat : Int)) (W : World) (h : W.cell? ⟨q, 0, none⟩ = some (.int .u8 d)) :
    (convert 33 9 (.slice (some ⟨q, 0, none⟩) 1 1)).run Tryd.prog W = .ok (.string ⟨#[c]⟩) W := by
  subst hd
  have := run_convert_bytes_back (P := Tryd.prog) W 33 9 5 ⟨q, 0, none⟩ 1 [c] Tryd.underlying33 Tryd.underlying5 Tryd.underlying9 (fun j hj => by
    obtain rfl : j = 0 := by simpa using hj
    rw [Addr.add_lit, Nat.add_zero, h]
    simp)
  simpa using this
theorem cell_1 (w : World) (c : Value) (T : TypeId) : (w.alloc (.cells #[c] T)).cell? ⟨w.heap.size, 0, none⟩ = some c := by
  rw [cell_of_row _ w.heap.size 0 _ T (0, 0) (heap_alloc_new w _)]; rfl
theorem app_1 (c : UInt8) (s : ByteArray) : ((⟨#[c]⟩ : ByteArray) ++ s).data.toList = c :: s.data.toList ∧ ((⟨#[c]⟩ : ByteArray) ++ s).size = s.size + 1 := by
  constructor
  · simp
  · rw [ByteArray.size_append]; show 1 + s.size = _; omega

/-- the row's k-th value is marked -/
def markV (k : Nat) : V3 := ⟨(k : Int), ((k + 1 : Nat) : Int), markT (k + 2)⟩
def marksV (k n : Nat) : List V3 := (List.range n).map fun i => markV (k + 3 * i)
theorem marksV_length (k n : Nat) : (marksV k n).length = n := by simp [marksV]
theorem marksV_succ (k n : Nat) : marksV k (n + 1) = marksV k n ++ [markV (k + 3 * n)] := by simp [marksV, List.range_succ]
def partM (L : List V3) (k j : Nat) : List V3 := marksV k j ++ L.drop j
theorem partM_end {L : List V3} {k j : Nat} (h : L.length ≤ j) : partM L k j = marksV k j := by unfold partM; rw [List.drop_eq_nil_of_le h, List.append_nil]
theorem partM_length {L : List V3} {k j : Nat} (h : j ≤ L.length) : (partM L k j).length = L.length := by unfold partM; rw [List.length_append, marksV_length, List.length_drop]; omega
theorem partM_set {L : List V3} {k j : Nat} (h : j < L.length) :
    (((cells3 (partM L k j)).set (j * 3) (.int .i64 (markV (k + 3 * j)).K)).set (j * 3 + 1) (.int .i64 (markV (k + 3 * j)).N)).set (j * 3 + 2) (.string (markV (k + 3 * j)).S) = cells3 (partM L k (j + 1)) := by
  have h1 : partM L k j = marksV k j ++ L[j] :: L.drop (j + 1) := by unfold partM; rw [List.drop_eq_getElem_cons h]
  have h2 : partM L k (j + 1) = marksV k j ++ markV (k + 3 * j) :: L.drop (j + 1) := by unfold partM; rw [marksV_succ, List.append_assoc]; rfl
  have := cells3_set (marksV k j) (L.drop (j + 1)) (markV (k + 3 * j)) L[j]
  rw [marksV_length] at this
  rw [h1, h2]; exact this

end Go.Proofs.YtaflokfgbmlmaacDoor
/-
  The contracts of the laws' own helpers on Args: to copies, sz counts off, eq finds one the same as itself; so of rows of them.
-/
namespace Go.Proofs.YtaflokfgbmlmaacDoor
open Go.RowKit
set_option linter.unusedVariables false

theorem Tryd.info39 : (Tryd.prog.info? 39).map (fun i => (i.zero, i.size, i.bytes)) = some (some (.agg #[.int .i64 0, .string ⟨#[]⟩, .int .i64 0, .int .i64 0, .string ⟨#[]⟩]), 5, 56) := by kernel_rfl

set_option maxRecDepth 100000 in
set_option maxHeartbeats 1600000 in
theorem toArg_any (K : Int) (S : ByteArray) (VK : Int) (VN : Int) (VS : ByteArray) (w : World) :
    Calls Tryd.prog 101 #[.agg #[.int .i64 K, .string S, .int .i64 VK, .int .i64 VN, .string VS]] w fun e w' => e = .returned (.agg #[.int .i64 K, .string S, .int .i64 VK, .int .i64 VN, .string VS]) ∧ Below w.heap.size w w' := by
  go_enter Tryd.func101, Tryd.ntmps101
  go_wp2_with fail
  have b0 := below_al w (.cells #[.int .i64 K, .string S, .int .i64 VK, .int .i64 VN, .string VS] 112)
  have b1 := b0.alloc b0.size (.cells #[.int .i64 0, .string ⟨#[]⟩, .int .i64 0, .int .i64 0, .string ⟨#[]⟩] 39)
  have b2 := b1.alloc b1.size (.cells #[.int .i64 K, .string S, .int .i64 0, .int .i64 0, .string ⟨#[]⟩] 39)
  have hR := box_old (boxk_new (w.alloc (.cells #[.int .i64 K, .string S, .int .i64 VK, .int .i64 VN, .string VS] 112)) #[.int .i64 0, .string ⟨#[]⟩, .int .i64 0, .int .i64 0, .string ⟨#[]⟩] 39) (by simp) (.cells #[.int .i64 K, .string S, .int .i64 0, .int .i64 0, .string ⟨#[]⟩] 39)
  have hX := boxk_new ((w.alloc (.cells #[.int .i64 K, .string S, .int .i64 VK, .int .i64 VN, .string VS] 112)).alloc (.cells #[.int .i64 0, .string ⟨#[]⟩, .int .i64 0, .int .i64 0, .string ⟨#[]⟩] 39)) #[.int .i64 K, .string S, .int .i64 0, .int .i64 0, .string ⟨#[]⟩] 39
  simp only [World.size_alloc] at hR hX
  refine (toVal_any VK VN VS _).mono ?_
  rintro e w1 ⟨rfl, hb⟩
  have HR := hide (box_below hR hb (by simp))
  have HX := hide (box_below hX hb (by simp))
  have hB : Below w.heap.size w w1 := b2.trans (hb.mono b2.size)
  clear hb hR hX b0 b1 b2
  have x0 := boxk_cell HX.out 0 _ rfl
  have xf0 := boxk_frozen HX.out 0
  have r0 := boxk_cell HR.out 0 _ rfl
  have rf0 := boxk_frozen HR.out 0
  have x1 := boxk_cell HX.out 1 _ rfl
  have xf1 := boxk_frozen HX.out 1
  have r1 := boxk_cell HR.out 1 _ rfl
  have rf1 := boxk_frozen HR.out 1
  have x2 := boxk_cell HX.out 2 _ rfl
  have xf2 := boxk_frozen HX.out 2
  have r2 := boxk_cell HR.out 2 _ rfl
  have rf2 := boxk_frozen HR.out 2
  have x3 := boxk_cell HX.out 3 _ rfl
  have xf3 := boxk_frozen HX.out 3
  have r3 := boxk_cell HR.out 3 _ rfl
  have rf3 := boxk_frozen HR.out 3
  have x4 := boxk_cell HX.out 4 _ rfl
  have xf4 := boxk_frozen HX.out 4
  have r4 := boxk_cell HR.out 4 _ rfl
  have rf4 := boxk_frozen HR.out 4
  have HX2 := hide (boxk_set HX.out 2 (.int .i64 VK))
  have HX3 := hide (boxk_set HX2.out.1 3 (.int .i64 VN))
  have HX4 := hide (boxk_set HX3.out.1 4 (.string VS))
  have HR2 := hide (box_gr (box_gr (box_gr HR.out HX2.out.2 (by omega)) HX3.out.2 (by omega)) HX4.out.2 (by omega))
  have HB2 := hide (below_set (below_set (below_set hB HX2.out.2 (by omega)) HX3.out.2 (by omega)) HX4.out.2 (by omega))
  go_wp2
  refine box5_post HR2.out (fun w4 h4 gr => ?_)
  clear x0 xf0 r0 rf0 x1 xf1 r1 rf1 x2 xf2 r2 rf2 x3 xf3 r3 rf3 x4 xf4 r4 rf4
  have c0 := boxk_cell h4 0 _ rfl
  have c1 := boxk_cell h4 1 _ rfl
  have c2 := boxk_cell h4 2 _ rfl
  have c3 := boxk_cell h4 3 _ rfl
  have c4 := boxk_cell h4 4 _ rfl
  exact bodyPost_ret (v := .agg #[.int .i64 K, .string S, .int .i64 VK, .int .i64 VN, .string VS]) (by simp [results, Tryd.results101, go_sem, c0, c1, c2, c3, c4]) rfl ⟨rfl, below_set HB2.out gr (by omega)⟩

set_option maxRecDepth 100000 in
set_option maxHeartbeats 1600000 in
theorem szArg_any (K : Int) (S : ByteArray) (VK : Int) (VN : Int) (VS : ByteArray) (left : Int) (w : World) (hs : S.size ≤ maxLen) (hv : VS.size ≤ maxLen) (h0 : 0 ≤ left) (h1 : left ≤ 1048576) :
    Calls Tryd.prog 99 #[.agg #[.int .i64 K, .string S, .int .i64 VK, .int .i64 VN, .string VS], .int .i64 left] w fun e w' =>
      (∃ r, e = .returned (.int .i64 r) ∧ (r = -1 ∨ (0 ≤ r ∧ r + (S.size : Int) + (VS.size : Int) ≤ left))) ∧ Below w.heap.size w w' := by
  have hs0 := hs
  unfold maxLen at hs
  by_cases h2 : left - (S.size : Int) < 0
  · go_enter Tryd.func99, Tryd.ntmps99
    go_wp2
    go_ret
    exact ⟨⟨-1, rfl, .inl rfl⟩, by go_grown⟩
  · go_enter Tryd.func99, Tryd.ntmps99
    go_wp2_with fail
    have b0 := below_al w (.cells #[.int .i64 K, .string S, .int .i64 VK, .int .i64 VN, .string VS] 112)
    refine (szVal_any VK VN VS (left - (S.size : Int)) _ hv (by omega) (by omega)).mono ?_
    rintro e w1 ⟨rfl, hb1⟩
    have hB1 : Below w.heap.size w w1 := b0.trans (hb1.mono b0.size)
    clear hb1 b0
    by_cases h3 : left - (S.size : Int) - (VS.size : Int) < 0
    · rw [if_pos h3]
      go_wp2
      go_ret
      exact ⟨⟨-1, rfl, .inl rfl⟩, hB1⟩
    · rw [if_neg h3]
      go_wp2
      go_ret
      exact ⟨⟨_, rfl, .inr ⟨by omega, by omega⟩⟩, hB1⟩

set_option maxRecDepth 100000 in
set_option maxHeartbeats 1600000 in
theorem eqArg_same (K : Int) (S : ByteArray) (VK : Int) (VN : Int) (VS : ByteArray) (w : World) :
    Calls Tryd.prog 103 #[.agg #[.int .i64 K, .string S, .int .i64 VK, .int .i64 VN, .string VS], .agg #[.int .i64 K, .string S, .int .i64 VK, .int .i64 VN, .string VS]] w fun e w' => e = .returned (.bool true) ∧ Below w.heap.size w w' := by
  have kK : (K != K) = false := by simp
  have kS : (S.toList == S.toList) = true := by simp
  go_enter Tryd.func103, Tryd.ntmps103
  go_wp2_with fail
  have b0 := below_al w (.cells #[.int .i64 K, .string S, .int .i64 VK, .int .i64 VN, .string VS] 39)
  have b1 := b0.alloc b0.size (.cells #[.int .i64 K, .string S, .int .i64 VK, .int .i64 VN, .string VS] 39)
  refine (eqVal_same VK VN VS _).mono ?_
  rintro e w1 ⟨rfl, hb⟩
  have hB : Below w.heap.size w w1 := b1.trans (hb.mono b1.size)
  go_wp2
  go_ret
  exact ⟨rfl, hB⟩

set_option maxRecDepth 100000 in
set_option maxHeartbeats 1600000 in
theorem toArgS_at (a : Option Addr) (cap : Nat) (L : List A5) (w : World) (hr : RdArg w a L) (hn : L.length ≤ 1048576) :
    Calls Tryd.prog 61 #[.slice a L.length cap] w fun e w' =>
      e = .returned (.slice (some ⟨w.heap.size, 0, none⟩) L.length L.length) ∧ w'.ownsRow w.heap.size 39 5 (.slice (some ⟨w.heap.size, 0, none⟩) L.length L.length) L.length (rowOf A5.cs L) ∧ Below w.heap.size w w' := by
  obtain ⟨i0, hi, hz0, hz1, hz2⟩ := info_parts Tryd.info39
  obtain ⟨n, hN⟩ : ∃ n, n = L.length := ⟨_, rfl⟩
  rw [← hN] at hn ⊢
  have HN := hide hN
  clear hN
  have hmade := rowOf_made (f := A5.cs) (x := A5.zero) (cs := #[.int .i64 0, .string ⟨#[]⟩, .int .i64 0, .int .i64 0, .string ⟨#[]⟩]) rfl (by decide) n
  go_enter Tryd.func61, Tryd.ntmps61
  go_wp2_with (at_make; refine wpList_make_full _ rfl _ _ 51 rfl w.heap.size 39 i0 (.agg #[.int .i64 0, .string ⟨#[]⟩, .int .i64 0, .int .i64 0, .string ⟨#[]⟩]) 5 Tryd.underlying51 hi hz0 hz1 _ _ _ _ n rfl rfl (by omega) (by omega) ?b2 ?b3 (Nat.le_refl _) ?_)
  case b2 => rw [hz2]; omega
  case b3 => unfold maxLen; omega
  intro w0 hown0 hgrow0
  have hown0' : w0.ownsRow w.heap.size 39 5 (.slice (some ⟨w.heap.size, 0, none⟩) n n) n (rowOf A5.cs (List.replicate n A5.zero)) := by rw [← hmade]; exact hown0
  clear hown0 hmade
  go_wp2
  go_loopw [4] (fun i wr => ∃ k : Nat, k ≤ n ∧ i = .int .i64 k ∧ wr.ownsRow w.heap.size 39 5 (.slice (some ⟨w.heap.size, 0, none⟩) n n) n (rowOf A5.cs (partK L A5.zero k)) ∧ Below w.heap.size w wr)
    (fun i _ => n - (intOf i).toNat)
  case atStart =>
    refine ⟨0, Nat.zero_le _, rfl, ?_, (Below.refl _ _).grown hgrow0 (Nat.le_refl _) (fun k h => by cases h)⟩
    rw [partK_zero, ← HN.out]
    exact hown0'
  case round =>
    obtain ⟨k, hk, rfl, hown, hbel⟩ := hrel
    by_cases hlt : k < n
    · obtain ⟨b, off, hab, hbw, hc⟩ := RdArg.cells hr (by rw [← HN.out]; omega)
      obtain ⟨c0, c1, c2, c3, c4⟩ := hc k (by rw [← HN.out]; exact hlt)
      clear hc
      subst hab
      rw [← hbel.cell (p := ⟨b, off + k * 5, none⟩) hbw] at c0
      rw [← hbel.cell (p := ⟨b, off + k * 5 + 1, none⟩) hbw] at c1
      rw [← hbel.cell (p := ⟨b, off + k * 5 + 2, none⟩) hbw] at c2
      rw [← hbel.cell (p := ⟨b, off + k * 5 + 3, none⟩) hbw] at c3
      rw [← hbel.cell (p := ⟨b, off + k * 5 + 4, none⟩) hbw] at c4
      go_wp2_with fail
      refine (toArg_any _ _ _ _ _ _).mono ?_
      rintro e w2 ⟨rfl, hb2⟩
      have hown2 : w2.ownsRow w.heap.size 39 5 (.slice (some ⟨w.heap.size, 0, none⟩) n n) n (rowOf A5.cs (partK L A5.zero k)) := ownsRow_below' hown hb2
      have hbel2 : Below w.heap.size w w2 := hbel.trans (hb2.mono hbel.size)
      have hlen : (rowOf A5.cs (partK L A5.zero k)).length = n * 5 := by rw [rowOf_length A5.len, partK_length (by rw [← HN.out]; omega), ← HN.out]
      have hmem : ∀ j, j < 5 → ∃ u, w2.cell? ⟨w.heap.size, k * 5 + j, none⟩ = some u := fun j hj => by
        rw [hown2.cellAt (k * 5 + j) (by omega), List.getElem?_eq_getElem (by omega)]
        exact ⟨_, rfl⟩
      obtain ⟨u0, m0⟩ := hmem 0 (by omega)
      obtain ⟨u1, m1⟩ := hmem 1 (by omega)
      obtain ⟨u2, m2⟩ := hmem 2 (by omega)
      obtain ⟨u3, m3⟩ := hmem 3 (by omega)
      obtain ⟨u4, m4⟩ := hmem 4 (by omega)
      rw [Nat.add_zero] at m0
      have f0 := hown2.frozenAt (k * 5)
      have f1 := hown2.frozenAt (k * 5 + 1)
      have f2 := hown2.frozenAt (k * 5 + 2)
      have f3 := hown2.frozenAt (k * 5 + 3)
      have f4 := hown2.frozenAt (k * 5 + 4)
      have HO := hide (((((hown2.stored (k * 5) (.int .i64 (eAt L k).K)).1.stored (k * 5 + 1) (.string (eAt L k).S)).1.stored (k * 5 + 2) (.int .i64 (eAt L k).V.K)).1.stored (k * 5 + 3) (.int .i64 (eAt L k).V.N)).1.stored (k * 5 + 4) (.string (eAt L k).V.S)).1
      have HB : Hid (Below w.heap.size w (((((w2.setCell ⟨w.heap.size, k * 5, none⟩ (.int .i64 (eAt L k).K)).setCell ⟨w.heap.size, k * 5 + 1, none⟩ (.string (eAt L k).S)).setCell ⟨w.heap.size, k * 5 + 2, none⟩ (.int .i64 (eAt L k).V.K)).setCell ⟨w.heap.size, k * 5 + 3, none⟩ (.int .i64 (eAt L k).V.N)).setCell ⟨w.heap.size, k * 5 + 4, none⟩ (.string (eAt L k).V.S))) := (((((hbel2.setCell (Nat.le_refl _) _).setCell (Nat.le_refl _) _).setCell (Nat.le_refl _) _).setCell (Nat.le_refl _) _).setCell (Nat.le_refl _) _)
      rw [rowOf_set_A5 (eAt L k) _ k (by rw [partK_length (by rw [← HN.out]; omega), ← HN.out]; exact hlt), partK_set (by rw [← HN.out]; exact hlt)] at HO
      clear hmem hlen c0 c1 c2 c3 c4 hown hbel hb2 hown2 hbel2
      go_wp2
      go_roundw
      case rel => exact ⟨k + 1, by omega, by go_num, HO.out, HB.out⟩
      case measure => simp [intOf]; omega
    · have HE : Hid (wr.ownsRow w.heap.size 39 5 (.slice (some ⟨w.heap.size, 0, none⟩) n n) n (rowOf A5.cs L)) := by
        have hkn : k = L.length := by rw [← HN.out]; omega
        rw [hkn, partK_end] at hown
        exact hown
      clear hown
      go_wp2
      go_ret
      exact ⟨rfl, HE.out, hbel⟩

set_option maxRecDepth 100000 in
set_option maxHeartbeats 1600000 in
theorem szArgS_any (a : Option Addr) (cap : Nat) (L : List A5) (left : Int) (w : World) (hr : RdArg w a L) (hs : ∀ x ∈ L, x.fits) (hm : L.length ≤ maxLen) (h0 : 0 ≤ left) (h1 : left ≤ 1048576) :
    Calls Tryd.prog 59 #[.slice a L.length cap, .int .i64 left] w fun e w' =>
      (∃ r, e = .returned (.int .i64 r) ∧ (r = -1 ∨ (0 ≤ r ∧ r + (L.length : Int) ≤ left ∧ ∀ x ∈ L, x.small))) ∧ Below w.heap.size w w' := by
  unfold maxLen at hm
  obtain ⟨n, hN⟩ : ∃ n, n = L.length := ⟨_, rfl⟩
  rw [← hN] at hm ⊢
  have HN := hide hN
  have HS := hide hs
  clear hN hs
  by_cases h2 : left - (n : Int) < 0
  · go_enter Tryd.func59, Tryd.ntmps59
    go_wp2
    go_ret
    exact ⟨⟨-1, rfl, .inl rfl⟩, Below.refl _ _⟩
  · go_enter Tryd.func59, Tryd.ntmps59
    go_wp2
    go_loopw [1, 5] (fun l i wr => ∃ (k : Nat) (lf : Int), k ≤ n ∧ i = .int .i64 k ∧ l = .int .i64 lf ∧ 0 ≤ lf ∧ lf ≤ left - n ∧ (∀ j, j < k → (eAt L j).small) ∧ Below w.heap.size w wr) (fun _ i _ => n - (intOf i).toNat)
    case atStart => exact ⟨0, left - n, Nat.zero_le _, rfl, rfl, by omega, Int.le_refl _, fun j hj => absurd hj (Nat.not_lt_zero _), Below.refl _ _⟩
    case round =>
      obtain ⟨k, lf, hk, rfl, rfl, hlf, hle, hsm, hbel⟩ := hrel
      have HSm := hide hsm
      clear hsm
      by_cases hlt : k < n
      · obtain ⟨b, off, hab, hbw, hc⟩ := RdArg.cells hr (by rw [← HN.out]; omega)
        obtain ⟨c0, c1, c2, c3, c4⟩ := hc k (by rw [← HN.out]; exact hlt)
        clear hc
        subst hab
        rw [← hbel.cell (p := ⟨b, off + k * 5, none⟩) hbw] at c0
        rw [← hbel.cell (p := ⟨b, off + k * 5 + 1, none⟩) hbw] at c1
        rw [← hbel.cell (p := ⟨b, off + k * 5 + 2, none⟩) hbw] at c2
        rw [← hbel.cell (p := ⟨b, off + k * 5 + 3, none⟩) hbw] at c3
        rw [← hbel.cell (p := ⟨b, off + k * 5 + 4, none⟩) hbw] at c4
        have hS : (eAt L k).fits := by rw [eAt_in (by rw [← HN.out]; exact hlt)]; exact HS.out _ (List.getElem_mem _)
        obtain ⟨hS0, hS1⟩ := hS
        go_wp2_with fail
        refine (szArg_any _ _ _ _ _ lf _ hS0 hS1 hlf (by omega)).mono ?_
        rintro e w2 ⟨⟨r, rfl, hr2⟩, hb2⟩
        have hbel2 : Below w.heap.size w w2 := hbel.trans (hb2.mono hbel.size)
        clear hb2 c0 c1 c2 c3 c4 hbel
        rcases hr2 with rfl | ⟨h3, h4⟩
        · go_wp2
          go_ret
          exact ⟨⟨-1, rfl, .inl rfl⟩, hbel2⟩
        · have HSk : Hid ((eAt L k).small) := ⟨by omega, by omega⟩
          have h5 : r ≤ lf := by omega
          clear h4
          go_wp2
          go_roundw
          case rel => exact ⟨k + 1, r, by omega, by go_num, rfl, h3, by omega, fun j hj => by
              by_cases hjk : j = k
              · rw [hjk]; exact HSk.out
              · exact HSm.out j (by omega), hbel2⟩
          case measure => simp [intOf]; omega
      · have HAll : Hid (∀ x ∈ L, x.small) := fun x hx => by
          obtain ⟨j, hj, rfl⟩ := List.getElem_of_mem hx
          rw [← eAt_in hj]
          exact HSm.out j (by rw [← HN.out] at hj; omega)
        go_wp2
        go_ret
        exact ⟨⟨lf, rfl, .inr ⟨hlf, by omega, HAll.out⟩⟩, hbel⟩

theorem toArgS_ex (a : Option Addr) (cap : Nat) (L : List A5) (w : World) (hr : RdArg w a L) (hn : L.length ≤ 1048576) :
    Calls Tryd.prog 61 #[.slice a L.length cap] w fun e w' =>
      ∃ g, e = .returned (.slice (some ⟨g, 0, none⟩) L.length L.length) ∧ w.heap.size ≤ g ∧ OwnArg w' g L.length L ∧ Below w.heap.size w w' :=
  (toArgS_at a cap L w hr hn).mono fun e w' h => ⟨w.heap.size, h.1, Nat.le_refl _, OwnK.of A5.len (by decide) h.2.1, h.2.2⟩

theorem keepArg {w0 W w' : World} {B : Nat} {p0 p1 p2 p3 p4 p5 p6 p7 p8 p9 : Addr} {v0 v1 v2 v3 v4 v5 v6 v7 v8 v9 : Value} (hb : Below W.heap.size W w')
    (h : W.cell? p0 = some v0 ∧ W.cell? p1 = some v1 ∧ W.cell? p2 = some v2 ∧ W.cell? p3 = some v3 ∧ W.cell? p4 = some v4 ∧ W.cell? p5 = some v5 ∧ W.cell? p6 = some v6 ∧ W.cell? p7 = some v7 ∧ W.cell? p8 = some v8 ∧ W.cell? p9 = some v9 ∧ Below B w0 W ∧ B ≤ W.heap.size) :
    w'.cell? p0 = some v0 ∧ w'.cell? p1 = some v1 ∧ w'.cell? p2 = some v2 ∧ w'.cell? p3 = some v3 ∧ w'.cell? p4 = some v4 ∧ w'.cell? p5 = some v5 ∧ w'.cell? p6 = some v6 ∧ w'.cell? p7 = some v7 ∧ w'.cell? p8 = some v8 ∧ w'.cell? p9 = some v9 ∧ Below B w0 w' ∧ B ≤ w'.heap.size := by
  obtain ⟨q0, q1, q2, q3, q4, q5, q6, q7, q8, q9, h6, h7⟩ := h
  have k : ∀ {a : Addr} {v : Value}, W.cell? a = some v → w'.cell? a = some v := fun {a v} h => by rw [hb.cell (World.block_lt_of_cell? W _ h)]; exact h
  exact ⟨k q0, k q1, k q2, k q3, k q4, k q5, k q6, k q7, k q8, k q9, h6.trans (hb.mono h7), Nat.le_trans h7 hb.size⟩
set_option maxRecDepth 100000 in
set_option maxHeartbeats 1600000 in
theorem eqArgS_same (a b : Option Addr) (ca cb : Nat) (L : List A5) (w : World) (hr : RdArg w a L) (hq : RdArg w b L) (hm : L.length ≤ 2097152) :
    Calls Tryd.prog 63 #[.slice a L.length ca, .slice b L.length cb] w fun e w' =>
      e = .returned (.bool true) ∧ Below w.heap.size w w' := by
  obtain ⟨n, hN⟩ : ∃ n, n = L.length := ⟨_, rfl⟩
  rw [← hN] at hm ⊢
  have HN := hide hN
  clear hN
  have hnn : ((n : Int) != (n : Int)) = false := by simp
  go_enter Tryd.func63, Tryd.ntmps63
  go_wp2
  go_loopw [5] (fun i wr => ∃ (k : Nat), k ≤ n ∧ i = .int .i64 k ∧ Below w.heap.size w wr) (fun i _ => n - (intOf i).toNat)
  case atStart => exact ⟨0, Nat.zero_le _, rfl, Below.refl _ _⟩
  case round =>
    obtain ⟨k, hk, rfl, hbel⟩ := hrel
    by_cases hlt : k < n
    · obtain ⟨b1, o1, e1, hbw1, hc1⟩ := RdArg.cells hr (by rw [← HN.out]; omega)
      obtain ⟨b2, o2, e2, hbw2, hc2⟩ := RdArg.cells hq (by rw [← HN.out]; omega)
      obtain ⟨c0, c1, c2, c3, c4⟩ := hc1 k (by rw [← HN.out]; exact hlt)
      obtain ⟨d0, d1, d2, d3, d4⟩ := hc2 k (by rw [← HN.out]; exact hlt)
      clear hc1 hc2
      subst e1 e2
      rw [← hbel.cell (p := ⟨b1, o1 + k * 5, none⟩) hbw1] at c0
      rw [← hbel.cell (p := ⟨b2, o2 + k * 5, none⟩) hbw2] at d0
      rw [← hbel.cell (p := ⟨b1, o1 + k * 5 + 1, none⟩) hbw1] at c1
      rw [← hbel.cell (p := ⟨b2, o2 + k * 5 + 1, none⟩) hbw2] at d1
      rw [← hbel.cell (p := ⟨b1, o1 + k * 5 + 2, none⟩) hbw1] at c2
      rw [← hbel.cell (p := ⟨b2, o2 + k * 5 + 2, none⟩) hbw2] at d2
      rw [← hbel.cell (p := ⟨b1, o1 + k * 5 + 3, none⟩) hbw1] at c3
      rw [← hbel.cell (p := ⟨b2, o2 + k * 5 + 3, none⟩) hbw2] at d3
      rw [← hbel.cell (p := ⟨b1, o1 + k * 5 + 4, none⟩) hbw1] at c4
      rw [← hbel.cell (p := ⟨b2, o2 + k * 5 + 4, none⟩) hbw2] at d4
      generalize (eAt L k).K = K at c0 d0
      generalize (eAt L k).S = S at c1 d1
      generalize (eAt L k).V.K = VK at c2 d2
      generalize (eAt L k).V.N = VN at c3 d3
      generalize (eAt L k).V.S = VS at c4 d4
      go_wp2_with fail
      go_region_held3 (fun W => W.cell? ⟨b1, o1 + k * 5, none⟩ = some (.int .i64 K) ∧ W.cell? ⟨b1, o1 + k * 5 + 1, none⟩ = some (.string S) ∧ W.cell? ⟨b1, o1 + k * 5 + 2, none⟩ = some (.int .i64 VK) ∧ W.cell? ⟨b1, o1 + k * 5 + 3, none⟩ = some (.int .i64 VN) ∧ W.cell? ⟨b1, o1 + k * 5 + 4, none⟩ = some (.string VS) ∧ W.cell? ⟨b2, o2 + k * 5, none⟩ = some (.int .i64 K) ∧ W.cell? ⟨b2, o2 + k * 5 + 1, none⟩ = some (.string S) ∧ W.cell? ⟨b2, o2 + k * 5 + 2, none⟩ = some (.int .i64 VK) ∧ W.cell? ⟨b2, o2 + k * 5 + 3, none⟩ = some (.int .i64 VN) ∧ W.cell? ⟨b2, o2 + k * 5 + 4, none⟩ = some (.string VS) ∧ Below w.heap.size w W ∧ w.heap.size ≤ W.heap.size) (first | exact ⟨c0, c1, c2, c3, c4, d0, d1, d2, d3, d4, hbel.drew, hbel.size⟩ | exact keepArg (by assumption) (by assumption))
        (first | (go_at_call 103; refine (eqArg_same _ _ _ _ _ _).mono ?_; rintro e w2 ⟨rfl, hb⟩))
      all_goals
        obtain ⟨-, -, -, -, -, -, -, -, -, -, hB2, -⟩ : w2.cell? ⟨b1, o1 + k * 5, none⟩ = some (.int .i64 K) ∧ w2.cell? ⟨b1, o1 + k * 5 + 1, none⟩ = some (.string S) ∧ w2.cell? ⟨b1, o1 + k * 5 + 2, none⟩ = some (.int .i64 VK) ∧ w2.cell? ⟨b1, o1 + k * 5 + 3, none⟩ = some (.int .i64 VN) ∧ w2.cell? ⟨b1, o1 + k * 5 + 4, none⟩ = some (.string VS) ∧ w2.cell? ⟨b2, o2 + k * 5, none⟩ = some (.int .i64 K) ∧ w2.cell? ⟨b2, o2 + k * 5 + 1, none⟩ = some (.string S) ∧ w2.cell? ⟨b2, o2 + k * 5 + 2, none⟩ = some (.int .i64 VK) ∧ w2.cell? ⟨b2, o2 + k * 5 + 3, none⟩ = some (.int .i64 VN) ∧ w2.cell? ⟨b2, o2 + k * 5 + 4, none⟩ = some (.string VS) ∧ Below w.heap.size w w2 ∧ w.heap.size ≤ w2.heap.size := by assumption
        go_wp2
        go_roundw
        case rel => exact ⟨k + 1, by omega, by go_num, hB2⟩
        case measure => simp [intOf]; omega
    · go_wp2
      go_ret
      exact ⟨rfl, hbel⟩
end Go.Proofs.YtaflokfgbmlmaacDoor
/-
  The contracts of the laws' own marks on rows of Args.
-/
namespace Go.Proofs.YtaflokfgbmlmaacDoor
open Go.RowKit
set_option linter.unusedVariables false

theorem grown_belowM {w w1 w2 : World} {g : Nat} (h : w.grownBy w1 (some g)) (hb : Below w1.heap.size w1 w2) : w.grownBy w2 (some g) :=
  ⟨hb.os.trans h.os, hb.tape.trans h.tape, hb.output.trans h.output, Nat.le_trans h.size hb.size, fun i hi hne => (hb.block i (Nat.lt_of_lt_of_le hi h.size)).trans (h.block i hi hne)⟩
def markA5 (k : Nat) : A5 := ⟨(k : Int), markT (k + 1), ⟨((k + 2 : Nat) : Int), ((k + 3 : Nat) : Int), markT (k + 4)⟩⟩
def marksA5 (k n : Nat) : List A5 := (List.range n).map fun i => markA5 (k + 5 * i)
theorem marksA5_length (k n : Nat) : (marksA5 k n).length = n := by simp [marksA5]
theorem marksA5_at {k n i : Nat} (h : i < n) : eAt (marksA5 k n) i = markA5 (k + 5 * i) := by rw [eAt_in (by rw [marksA5_length]; exact h)]; simp [marksA5]

end Go.Proofs.YtaflokfgbmlmaacDoor
/-
  Rows of texts: what a slice of them reads as (RdS), whether one is among them, and the contracts of the laws' own helpers on them.
-/
namespace Go.Proofs.YtaflokfgbmlmaacDoor
open Go.RowKit
set_option linter.unusedVariables false

def valsS (L : List ByteArray) : List Value := L.map Value.string
def sAt (L : List ByteArray) (i : Nat) : ByteArray := L.getD i ⟨#[]⟩
theorem sAt_in {L : List ByteArray} {i : Nat} (h : i < L.length) : sAt L i = L[i] := by simp [sAt, List.getD, h]
theorem valsS_length (L : List ByteArray) : (valsS L).length = L.length := by simp [valsS]
theorem valsS_get {L : List ByteArray} {i : Nat} (h : i < L.length) : (valsS L)[i]? = some (.string (sAt L i)) := by rw [sAt_in h]; simp [valsS, h]
theorem valsS_snoc (L : List ByteArray) (x : ByteArray) : valsS L ++ [.string x] = valsS (L ++ [x]) := by simp [valsS]
def RdS (w : World) (a : Option Addr) (L : List ByteArray) : Prop := ∀ i, i < L.length → ∃ b off, a = some ⟨b, off, none⟩ ∧ w.cell? ⟨b, off + i, none⟩ = some (.string (sAt L i))
theorem RdS.open {w : World} {a : Option Addr} {L : List ByteArray} (h : RdS w a L) (hp : 0 < L.length) :
    ∃ b off, a = some ⟨b, off, none⟩ ∧ b < w.heap.size ∧ ∀ i, i < L.length → w.cell? ⟨b, off + i, none⟩ = some (.string (sAt L i)) := by
  obtain ⟨b, off, rfl, h0⟩ := h 0 hp
  refine ⟨b, off, rfl, World.block_lt_of_cell? w _ h0, fun i hi => ?_⟩
  obtain ⟨b2, off2, e, h1⟩ := h i hi
  simp only [Option.some.injEq, Addr.mk.injEq] at e
  rw [e.1, e.2.1]; exact h1
theorem RdS.below {w w' : World} {a : Option Addr} {L : List ByteArray} (h : RdS w a L) (hb : Below w.heap.size w w') : RdS w' a L := by
  intro i hi
  obtain ⟨b, off, e, h0⟩ := h i hi
  exact ⟨b, off, e, by rw [hb.cell (World.block_lt_of_cell? w _ h0)]; exact h0⟩
theorem rdS_owns {w : World} {base n : Nat} {T : TypeId} {v : Value} {L : List ByteArray} (h : w.ownsRow base T 1 v n (valsS L)) :
    ∃ a cap, v = .slice a L.length cap ∧ RdS w a L ∧ n = L.length := by
  have hn : n = L.length := by have := h.1; rw [valsS_length] at this; omega
  subst hn
  rcases h.2 with ⟨rfl, h0⟩ | ⟨g, cap, cur, rfl, hb, hg, hnc, hcm, hsz, htake⟩
  · exact ⟨none, 0, by rw [h0], fun i hi => by omega, rfl⟩
  · refine ⟨_, cap, rfl, fun i hi => ⟨g, 0, rfl, ?_⟩, rfl⟩
    have e0 := h.cellAt i (by omega)
    rw [Nat.zero_add, e0]; exact valsS_get hi
theorem rdS_of {w : World} {base n m c : Nat} {T : TypeId} {a : Option Addr} {L : List ByteArray} (h : w.ownsRow base T 1 (.slice a m c) n (valsS L)) : RdS w a L := by
  obtain ⟨a', c', e, hr, -⟩ := rdS_owns h
  simp only [Value.slice.injEq] at e
  rw [e.1]; exact hr
theorem below_dnS {w u : World} {n : Nat} (k : Below (w.drewN n).heap.size (w.drewN n) u) : Below w.heap.size w u :=
  (show Below w.heap.size w (w.drewN n) from ⟨rfl, rfl, rfl, Nat.le_refl _, fun _ _ => rfl⟩).trans k
theorem beq_neS {a b : ByteArray} (h : a ≠ b) : (a.toList == b.toList) = false := by
  simp only [beq_eq_false_iff_ne, ne_eq]
  exact fun e => h (toList_inj e)
def hasS (L : List ByteArray) (s : ByteArray) : Bool := L.any fun x => decide (x = s)
theorem hasS_yes {L : List ByteArray} {s : ByteArray} {k : Nat} (hk : k < L.length) (h : sAt L k = s) : hasS L s = true := by
  rw [sAt_in hk] at h
  unfold hasS
  rw [List.any_eq_true]
  exact ⟨L[k], List.getElem_mem hk, by simpa using h⟩
theorem hasS_no {L : List ByteArray} {s : ByteArray} (h : ∀ j, j < L.length → sAt L j ≠ s) : hasS L s = false := by
  rw [Bool.eq_false_iff]
  intro ht
  unfold hasS at ht
  rw [List.any_eq_true] at ht
  obtain ⟨x, hx, e⟩ := ht
  obtain ⟨j, hj, e2⟩ := List.getElem_of_mem hx
  exact h j hj (by rw [sAt_in hj, e2]; simpa using e)
theorem hasS_mem {L : List ByteArray} {s : ByteArray} : hasS L s = true ↔ s ∈ L := by
  unfold hasS
  rw [List.any_eq_true]
  exact ⟨fun ⟨x, hx, e⟩ => by rw [← show x = s by simpa using e]; exact hx, fun h => ⟨s, h, by simp⟩⟩

set_option maxRecDepth 100000 in
set_option maxHeartbeats 1600000 in
theorem indexS_any (a : Option Addr) (n cap : Nat) (L : List ByteArray) (s : ByteArray) (w : World) (hz : L.length = n) (hr : RdS w a L) (hn : n ≤ 1048580) :
    Calls Tryd.prog 140 #[.slice a n cap, .string s] w fun e w' => (∃ r : Int, e = .returned (.int .i64 r) ∧ decide (0 ≤ r) = hasS L s) ∧ w' = w := by
  have HZ := hide hz
  clear hz
  go_enter Tryd.func140, Tryd.ntmps140
  go_wp2
  go_loop [8] (fun i => ∃ (k : Nat), k ≤ n ∧ i = .int .i64 k ∧ ∀ j, j < k → sAt L j ≠ s) (fun i => n - (intOf i).toNat)
  case atStart => exact ⟨0, Nat.zero_le _, rfl, fun j hj => absurd hj (Nat.not_lt_zero _)⟩
  case round =>
    obtain ⟨k, hk, rfl, hall⟩ := hrel
    have HA := hide hall
    clear hall
    by_cases hlt : k < n
    · obtain ⟨b, off, hab, hbw, hc⟩ := hr.open (by rw [HZ.out]; omega)
      have c0 := hc k (by rw [HZ.out]; exact hlt)
      clear hc
      subst hab
      by_cases he : sAt L k = s
      · have HV := hide (hasS_yes (by rw [HZ.out]; exact hlt) he)
        rw [he] at c0
        have k1 : (s.toList == s.toList) = true := by simp
        clear he
        go_wp2
        go_ret
        exact ⟨⟨k, rfl, by rw [HV.out]; simp⟩, rfl⟩
      · have k1 := beq_neS (Ne.symm he)
        have HE := hide he
        clear he
        go_wp2
        go_round
        case rel => exact ⟨k + 1, by omega, by go_num, fun j hj => by
            by_cases hjk : j = k
            · rw [hjk]; exact HE.out
            · exact HA.out j (by omega)⟩
        case measure => simp [intOf]; omega
    · have HV := hide (hasS_no (fun j hj => HA.out j (by rw [HZ.out] at hj; omega)))
      go_wp2
      go_ret
      exact ⟨⟨-1, rfl, by rw [HV.out]; rfl⟩, rfl⟩

set_option maxRecDepth 100000 in
theorem containsS_any (a : Option Addr) (n cap : Nat) (L : List ByteArray) (s : ByteArray) (w : World) (hz : L.length = n) (hr : RdS w a L) (hn : n ≤ 1048580) :
    Calls Tryd.prog 130 #[.slice a n cap, .string s] w fun e w' => e = .returned (.bool (hasS L s)) ∧ w' = w := by
  go_enter Tryd.func130, Tryd.ntmps130
  go_wp2_with fail
  refine (indexS_any a n cap L s _ hz hr hn).mono ?_
  rintro e w1 ⟨⟨r, rfl, h⟩, rfl⟩
  have H := hide h
  clear h
  go_wp2
  go_ret
  exact ⟨ret_bool H.out, rfl⟩

def marksS (k n : Nat) : List ByteArray := (List.range n).map fun i => markT (k + i)
theorem marksS_length (k n : Nat) : (marksS k n).length = n := by simp [marksS]
theorem marksS_succ (k n : Nat) : marksS k (n + 1) = marksS k n ++ [markT (k + n)] := by simp [marksS, List.range_succ]
theorem marksS_at {k n i : Nat} (h : i < n) : sAt (marksS k n) i = markT (k + i) := by
  rw [sAt_in (by rw [marksS_length]; exact h)]; simp [marksS]
def partS (xs : List Value) (k j : Nat) : List Value := valsS (marksS k j) ++ xs.drop j
theorem partS_set {xs : List Value} {k j : Nat} (h : j < xs.length) : (partS xs k j).set j (.string (markT (k + j))) = partS xs k (j + 1) := by
  unfold partS
  have hl : (valsS (marksS k j)).length = j := by rw [valsS_length, marksS_length]
  rw [List.set_append_right _ _ (by omega), hl, Nat.sub_self, List.drop_eq_getElem_cons h, List.set_cons_zero, marksS_succ]
  simp [valsS]
theorem partS_end {xs : List Value} {k j : Nat} (h : xs.length ≤ j) : partS xs k j = valsS (marksS k j) := by
  unfold partS; rw [List.drop_eq_nil_of_le h, List.append_nil]
theorem partS_length {xs : List Value} {k j : Nat} (h : j ≤ xs.length) : (partS xs k j).length = xs.length := by
  unfold partS; rw [List.length_append, valsS_length, marksS_length, List.length_drop]; omega

theorem kept1S {W w' : World} {p : Addr} {v : Value} (hb : Below W.heap.size W w') (h : W.cell? p = some v) : w'.cell? p = some v := by rw [hb.cell (World.block_lt_of_cell? W _ h)]; exact h
end Go.Proofs.YtaflokfgbmlmaacDoor
/-
  The variables of a pattern, plainly.
-/
namespace Go.Proofs.YtaflokfgbmlmaacDoor
open Go.RowKit
set_option linter.unusedVariables false

def varStep (l : List ByteArray) (x : A5) : List ByteArray := if x.K = 1 ∧ hasS l x.S = false then l ++ [x.S] else l
/-- each variable once, from the left -/
def varsL (L : List A5) : List ByteArray := L.foldl varStep []
theorem varsL_take {L : List A5} {k : Nat} (h : k < L.length) : varsL (L.take (k + 1)) = varStep (varsL (L.take k)) (eAt L k) := by
  unfold varsL
  rw [List.take_succ_eq_append_getElem h, List.foldl_append, eAt_in h]
  rfl
theorem varStep_yes {l : List ByteArray} {x : A5} (h1 : x.K = 1) (h2 : hasS l x.S = false) : varStep l x = l ++ [x.S] := by unfold varStep; rw [if_pos ⟨h1, h2⟩]
theorem varStep_has {l : List ByteArray} {x : A5} (h2 : hasS l x.S = true) : varStep l x = l := by unfold varStep; rw [if_neg (fun h => by rw [h2] at h; cases h.2)]
theorem varStep_no {l : List ByteArray} {x : A5} (h1 : x.K ≠ 1) : varStep l x = l := by unfold varStep; rw [if_neg (fun h => h1 h.1)]
theorem varStep_len (l : List ByteArray) (x : A5) : (varStep l x).length ≤ l.length + 1 := by unfold varStep; split <;> simp
theorem varsL_len (L : List A5) : ∀ k, k ≤ L.length → (varsL (L.take k)).length ≤ k
  | 0, _ => by simp [varsL]
  | k + 1, h => by
    rw [varsL_take (by omega)]
    have := varStep_len (varsL (L.take k)) (eAt L k)
    have := varsL_len L k (by omega)
    omega
end Go.Proofs.YtaflokfgbmlmaacDoor
/-
  A text copied, a value copied: the same.
-/
namespace Go.Proofs.YtaflokfgbmlmaacDoor
open Go.RowKit
set_option linter.unusedVariables false

set_option maxRecDepth 100000 in
theorem cloneS_any (s : ByteArray) (w : World) (hs : s.size ≤ 1048580) :
    Calls Tryd.prog 56 #[.string s] w fun e w' => e = .returned (.string s) ∧ Below w.heap.size w w' := by
  go_enter Tryd.func56, Tryd.ntmps56
  go_wp2_with fail
  refine (Tryd.stringslite_Clone s _ (by omega)).mono ?_
  rintro e w1 ⟨rfl, hb⟩
  go_wp2
  go_ret
  exact ⟨rfl, hb⟩
theorem two_boxes {w w' : World} {o : Obj} {cs : Array Value} {T : TypeId} (hb : Below ((w.alloc o).alloc (.cells cs T)).drew.heap.size ((w.alloc o).alloc (.cells cs T)).drew w') :
    w'.heap[w.heap.size + 1]? = some (.cells cs T (0, 0)) ∧ Below w.heap.size w w' := by
  have h0 := boxk_new (w.alloc o) cs T
  have b0 := below_al w o
  have b1 := b0.alloc b0.size (.cells cs T)
  rw [World.size_alloc] at h0
  refine ⟨box_below (w := ((w.alloc o).alloc (.cells cs T)).drew) h0 hb (by show _ < ((w.alloc o).alloc (.cells cs T)).heap.size; simp), b1.drew.trans (hb.mono ?_)⟩
  show _ ≤ ((w.alloc o).alloc (.cells cs T)).heap.size
  simp; omega
end Go.Proofs.YtaflokfgbmlmaacDoor
/-
  What both VarsOfs answer: varsL, in a row of the call's own.
-/
namespace Go.Proofs.YtaflokfgbmlmaacDoor
open Go.RowKit
set_option linter.unusedVariables false

theorem infoStr : (Tryd.prog.info? 9).map (fun i => (i.zero, i.size, i.bytes)) = some (some (.string ⟨#[]⟩), 1, 16) := by kernel_rfl
theorem srcS (W : World) (x : ByteArray) : ∀ j u, ([.string x] : List Value)[j]? = some u → (W.alloc (.cells #[.string x] 9)).cell? ((⟨W.heap.size, 0, none⟩ : Addr).add j) = some u := by
  intro j u hj
  rw [Addr.add_lit, Nat.zero_add]
  have hb : (W.alloc (.cells #[.string x] 9)).heap[W.heap.size]? = some (.cells #[.string x] 9 (0, 0)) := by rw [heap_alloc_new]
  match j, hj with
  | 0, hj => rw [cell_of_row _ _ 0 _ _ (0, 0) hb]; simpa using hj
theorem oneS (x : ByteArray) : ∀ u ∈ ([.string x] : List Value), u.oneCell' = true := by
  intro u hu
  simp only [List.mem_cons, List.not_mem_nil, or_false] at hu
  rw [hu]; rfl

theorem ownsRow_lowS {w : World} {base base' size n : Nat} {e : TypeId} {v : Value} {xs : List Value} (h : w.ownsRow base e size v n xs) (hb : base' ≤ base) : w.ownsRow base' e size v n xs := by
  refine ⟨h.1, ?_⟩
  rcases h.2 with h2 | ⟨g, cap, cur, h1, hb', rest⟩
  · exact .inl h2
  · exact .inr ⟨g, cap, cur, h1, Nat.le_trans hb hb', rest⟩
/-- a row of texts of the call's own -/
def GivesS (e : Ending) (w' : World) (base : Nat) (l : List ByteArray) : Prop := ∃ v, e = .returned v ∧ w'.ownsRow base 9 1 v l.length (valsS l)

/-- a text that is there once -/
def addS (l : List ByteArray) (s : ByteArray) : List ByteArray := if hasS l s = true then l else l ++ [s]
theorem addS_yes {l : List ByteArray} {s : ByteArray} (h : hasS l s = true) : addS l s = l := by unfold addS; rw [if_pos h]
theorem addS_no {l : List ByteArray} {s : ByteArray} (h : hasS l s = false) : addS l s = l ++ [s] := by unfold addS; rw [h]; rfl
theorem addS_len (l : List ByteArray) (s : ByteArray) : (addS l s).length ≤ l.length + 1 := by unfold addS; split <;> simp
theorem varStep_add {l : List ByteArray} {x : A5} (h : x.K = 1) : varStep l x = addS l x.S := by
  unfold varStep addS
  cases hasS l x.S <;> simp [h]
/-- the variables of these arguments behind those that are there -/
def varsF (l : List ByteArray) (L : List A5) : List ByteArray := L.foldl varStep l
theorem varsF_nil (L : List A5) : varsF [] L = varsL L := rfl
theorem varsF_take {l : List ByteArray} {L : List A5} {k : Nat} (h : k < L.length) : varsF l (L.take (k + 1)) = varStep (varsF l (L.take k)) (eAt L k) := by
  unfold varsF
  rw [List.take_succ_eq_append_getElem h, List.foldl_append, eAt_in h]
  rfl
theorem varsF_len (l : List ByteArray) (L : List A5) : ∀ k, k ≤ L.length → (varsF l (L.take k)).length ≤ l.length + k
  | 0, _ => by simp [varsF]
  | k + 1, h => by
    rw [varsF_take (by omega)]
    have := varStep_len (varsF l (L.take k)) (eAt L k)
    have := varsF_len l L k (by omega)
    omega
/-- a row of texts at or behind a world's end, where all that was in that world is left -/
def RowS (w0 : World) (v : Value) (l : List ByteArray) (w : World) : Prop := w.ownsRow w0.heap.size 9 1 v l.length (valsS l) ∧ Below w0.heap.size w0 w
theorem RowS.nil (w : World) : RowS w (.slice none 0 0) [] w := ⟨World.ownsRow_nil _ _ _ _, Below.refl _ _⟩
theorem RowS.alloc {w0 w : World} {v : Value} {l : List ByteArray} (h : RowS w0 v l w) (o : Obj) : RowS w0 v l (w.alloc o) := ⟨h.1.alloc o, h.2.alloc h.2.size o⟩
theorem RowS.later {w0 w w' : World} {v : Value} {l : List ByteArray} (h : RowS w0 v l w) (hb : Below w.heap.size w w') : RowS w0 v l w' := ⟨ownsRow_below' h.1 hb, h.2.trans (hb.mono h.2.size)⟩
theorem RowS.from {w1 w0 w : World} {v : Value} {l : List ByteArray} (h : RowS w0 v l w) (hb : Below w1.heap.size w1 w0) : RowS w1 v l w := ⟨ownsRow_lowS h.1 hb.size, hb.trans (h.2.mono hb.size)⟩

set_option maxRecDepth 100000 in
set_option maxHeartbeats 3200000 in
theorem withText_any (w0 : World) (v : Value) (l : List ByteArray) (s : ByteArray) (w : World) (h : RowS w0 v l w) (hs : s.size ≤ 1048580) (hl : l.length ≤ 1048579) :
    Calls Tryd.prog 106 #[v, .string s] w fun e w' => ∃ v', e = .returned v' ∧ RowS w0 v' (addS l s) w' := by
  obtain ⟨i0, hi, hz0, hz1, hz2⟩ := info_parts infoStr
  obtain ⟨va, vc, e0, r3, -⟩ := rdS_owns h.1
  subst e0
  have HH := hide h
  cases hh : hasS l s
  · have HA := hide (addS_no hh)
    clear h
    go_enter Tryd.func106, Tryd.ntmps106
    go_wp2_with fail
    refine (containsS_any va l.length vc l s _ rfl r3 (by omega)).mono ?_
    rintro e w3 ⟨rfl, rfl⟩
    rw [hh]
    go_wp2_with fail
    refine (cloneS_any s _ (by omega)).mono ?_
    rintro e w3 ⟨rfl, hb3⟩
    have H4 := hide ((HH.out.later hb3).alloc (.cells #[.string s] 9))
    have HSrc := hide (srcS w3 s)
    have HZ4 := H4.out.2.size
    clear HH r3 hb3
    go_wp2_with (at_builtin; refine wpList_append_lies _ rfl (.tmp 9) (.tmp 12) 58 rfl w0.heap.size 9 i0 (.string ⟨#[]⟩) 1 16 Tryd.underlying58 hi hz0 hz1 hz2 rfl (by omega) (.slice va l.length vc) l.length (valsS l) rfl H4.out.1 ⟨w3.heap.size, 0, none⟩ 1 1 [.string s] ?hx rfl HSrc.out (oneS s) (by omega) (by unfold maxLen; omega) (by omega) HZ4 _ rfl ?_)
    case hx => simp [Act.eval]
    intro g5 c5 w5 ho5 hg5 hat5 hlt5
    have HF : Hid (RowS w0 (.slice (some ⟨g5, 0, none⟩) (l.length + 1) c5) (addS l s) w5) := by
      refine ⟨?_, H4.out.2.grown hg5 HZ4 (fun k hk => (H4.out.1.lt k hk).1)⟩
      rw [HA.out, ← valsS_snoc, List.length_append]
      exact ho5
    clear ho5 hg5 hat5 hlt5 HSrc H4 HZ4
    go_wp2
    go_ret
    exact ⟨_, rfl, HF.out⟩
  · have HA := hide (addS_yes hh)
    clear h
    go_enter Tryd.func106, Tryd.ntmps106
    go_wp2_with fail
    refine (containsS_any va l.length vc l s _ rfl r3 (by omega)).mono ?_
    rintro e w3 ⟨rfl, rfl⟩
    rw [hh]
    go_wp2
    go_ret
    exact ⟨_, rfl, by rw [HA.out]; exact HH.out⟩

set_option maxRecDepth 100000 in
set_option maxHeartbeats 3200000 in
theorem withVars_any (w0 : World) (v : Value) (l : List ByteArray) (kd : ByteArray) (a : Option Addr) (cap : Nat) (L : List A5) (nt : Bool) (w : World) (h : RowS w0 v l w) (hr : RdArg w0 a L) (hs : ∀ x ∈ L, x.small) (hm : l.length + L.length ≤ 1048579) :
    Calls Tryd.prog 65 #[v, .agg #[.string kd, .slice a L.length cap, .bool nt]] w fun e w' => ∃ v', e = .returned v' ∧ RowS w0 v' (varsF l L) w' := by
  obtain ⟨n, hN⟩ : ∃ n, n = L.length := ⟨_, rfl⟩
  rw [← hN] at hm ⊢
  have HN := hide hN
  have HS := hide hs
  have HE : Hid (varsF l (L.take n) = varsF l L) := by unfold Hid; rw [hN, List.take_length]
  have h1 := h.alloc (.cells #[.string kd, .slice a n cap, .bool nt] 53)
  clear hN hs h
  go_enter Tryd.func65, Tryd.ntmps65
  go_wp2
  generalize w.alloc (.cells #[.string kd, .slice a n cap, .bool nt] 53) = w1 at h1
  go_loopw [0, 10] (fun v i wr => ∃ (k : Nat), k ≤ n ∧ i = .int .i64 k ∧ RowS w0 v (varsF l (L.take k)) wr) (fun _ i _ => n - (intOf i).toNat)
  case atStart => exact ⟨0, Nat.zero_le _, rfl, h1⟩
  case round =>
    clear h1
    obtain ⟨k, hk, rfl, hrow⟩ := hrel
    have HR := hide hrow
    clear hrow
    by_cases hlt : k < n
    · have hlL : k < L.length := by rw [← HN.out]; exact hlt
      obtain ⟨b, off, hab, hbw, hc⟩ := RdArg.cells (hr.below HR.out.2) (by omega)
      obtain ⟨c0, c1, c2, c3, c4⟩ := hc k hlL
      clear hc
      have hS : (eAt L k).small := by rw [eAt_in hlL]; exact HS.out _ (List.getElem_mem _)
      have hS1 := hS.1
      have HT := hide (varsF_take (l := l) hlL)
      have hvl := varsF_len l L k (by omega)
      subst hab
      obtain ⟨x, hx⟩ : ∃ x, x = eAt L k := ⟨_, rfl⟩
      rw [← hx] at c0 c1 c2 c3 c4 HT hS1
      obtain ⟨K, S, VK, VN, VS⟩ := x
      clear hx hS hlL
      simp only at c0 c1 c2 c3 c4 hS1
      generalize varsF l (L.take k) = l2 at HR HT hvl
      have H2 := HR.out.alloc (.cells #[.int .i64 K, .string S, .int .i64 VK, .int .i64 VN, .string VS] 39)
      by_cases h1 : K = 1
      · subst h1
        rw [varStep_add rfl] at HT
        go_wp2_with fail
        refine (withText_any w0 _ l2 S _ H2 (by omega) (by omega)).mono ?_
        rintro e w3 ⟨v', rfl, h3⟩
        have H3 := hide h3
        clear h3 H2 HR c0 c1 c2 c3 c4
        go_wp2
        go_roundw
        case rel => exact ⟨k + 1, by omega, by go_num, by rw [HT.out]; exact H3.out⟩
        case measure => simp [intOf]; omega
      · rw [varStep_no h1] at HT
        have k1 : (K == 1) = false := by simpa using h1
        have H3 := hide H2
        clear h1 H2 HR
        go_wp2
        go_roundw
        case rel => exact ⟨k + 1, by omega, by go_num, by rw [HT.out]; exact H3.out⟩
        case measure => simp [intOf]; omega
    · obtain rfl : k = n := by omega
      go_wp2
      go_ret
      exact ⟨_, rfl, by rw [← HE.out]; exact HR.out⟩

set_option maxRecDepth 100000 in
set_option maxHeartbeats 3200000 in
theorem implVarsOf_any (kd : ByteArray) (a : Option Addr) (cap : Nat) (L : List A5) (nt : Bool) (w : World) (hr : RdArg w a L) (hs : ∀ x ∈ L, x.small) (hm : L.length ≤ 1048576) :
    Calls Tryd.prog 26 #[.agg #[.string kd, .slice a L.length cap, .bool nt]] w fun e w' => GivesS e w' w.heap.size (varsL L) ∧ Below w.heap.size w w' := by
  have b1 := below_al w (.cells #[.string kd, .slice a L.length cap, .bool nt] 53)
  go_enter Tryd.func26, Tryd.ntmps26
  go_wp2_with fail
  refine (withVars_any (w.alloc (.cells #[.string kd, .slice a L.length cap, .bool nt] 53)) _ [] kd a cap L nt _ (RowS.nil _) (hr.below b1) hs (by simp; omega)).mono ?_
  rintro e w1 ⟨v', rfl, h⟩
  have H := hide (h.from b1)
  clear h
  go_wp2
  go_ret
  exact ⟨⟨_, rfl, H.out.1⟩, H.out.2⟩

end Go.Proofs.YtaflokfgbmlmaacDoor
/-
  What stands in the variables of a pattern, plainly: each is some argument's, and there once.
-/
namespace Go.Proofs.YtaflokfgbmlmaacDoor
open Go.RowKit
set_option linter.unusedVariables false

/-- each of these is some argument's, and none is there twice -/
def VarsOk (L : List A5) (l : List ByteArray) : Prop := (∀ s ∈ l, ∃ x ∈ L, x.K = 1 ∧ x.S = s) ∧ ∀ i, i < l.length → hasS (l.take i) (sAt l i) = false
theorem hasS_take {l : List ByteArray} {s : ByteArray} : hasS l s = false ↔ s ∉ l := by
  rw [← hasS_mem]; cases hasS l s <;> simp
theorem varStep_ok {L : List A5} {l : List ByteArray} {x : A5} (h : VarsOk L l) (hx : x ∈ L) : VarsOk L (varStep l x) := by
  unfold varStep
  split
  · rename_i hc
    refine ⟨fun s hs => ?_, fun i hi => ?_⟩
    · rcases List.mem_append.1 hs with h1 | h1
      · exact h.1 s h1
      · simp only [List.mem_cons, List.not_mem_nil, or_false] at h1
        exact ⟨x, hx, hc.1, h1.symm⟩
    · rw [List.length_append] at hi
      by_cases hil : i < l.length
      · have e1 : sAt (l ++ [x.S]) i = sAt l i := by rw [sAt_in (by rw [List.length_append]; omega), sAt_in hil, List.getElem_append_left hil]
        have e2 : (l ++ [x.S]).take i = l.take i := List.take_append_of_le_length (by omega)
        rw [e1, e2]; exact h.2 i hil
      · have e0 : i = l.length := by simp at hi; omega
        have e1 : sAt (l ++ [x.S]) i = x.S := by rw [sAt_in (by rw [List.length_append]; exact hi)]; subst e0; simp
        have e2 : (l ++ [x.S]).take i = l := by subst e0; simp
        rw [e1, e2]; exact hc.2
  · exact h
theorem foldl_ok {L : List A5} : ∀ (M : List A5) {l : List ByteArray}, (∀ x ∈ M, x ∈ L) → VarsOk L l → VarsOk L (M.foldl varStep l)
  | [], _, _, h => h
  | x :: r, l, hM, h => foldl_ok r (fun y hy => hM y (List.mem_cons_of_mem _ hy)) (varStep_ok h (hM x List.mem_cons_self))
theorem varsL_ok (L : List A5) : VarsOk L (varsL L) := foldl_ok L (fun _ h => h) ⟨(fun s hs => by cases hs), fun i hi => absurd hi (Nat.not_lt_zero _)⟩
end Go.Proofs.YtaflokfgbmlmaacDoor
/-
  Rows of bytes: what a slice of bytes reads as (Rd), what a call's own row holds (vals), and the contracts of the laws' own helpers on them: toByteS copies, eqByteS tells whether two are the same.
-/
namespace Go.Proofs.YtaflokfgbmlmaacDoor
open Go.RowKit
set_option linter.unusedVariables false

theorem Tryd.info5 : (Tryd.prog.info? 5).map (fun i => (i.zero, i.size, i.bytes)) = some (some (.int .u8 0), 1, 1) := by kernel_rfl

/-- the i-th byte as a number -/
def byteAt (bs : List UInt8) (i : Nat) : Int := ((bs.getD i 0).toNat : Int)
theorem byteAt_lo (bs : List UInt8) (i : Nat) : 0 ≤ byteAt bs i := by unfold byteAt; omega
theorem byteAt_hi (bs : List UInt8) (i : Nat) : byteAt bs i ≤ 255 := by
  unfold byteAt; have := (bs.getD i 0).toNat_lt; omega

def vals (bs : List UInt8) : List Value := bs.map (fun b => Value.int .u8 (b.toNat : Int))
theorem vals_length (bs : List UInt8) : (vals bs).length = bs.length := by simp [vals]
theorem vals_get {bs : List UInt8} {i : Nat} (h : i < bs.length) : (vals bs)[i]? = some (.int .u8 (byteAt bs i)) := by
  unfold vals byteAt
  rw [List.getElem?_map, List.getElem?_eq_getElem h]
  simp [List.getD, h]
theorem vals_append (a b : List UInt8) : vals (a ++ b) = vals a ++ vals b := by simp [vals]

/-- what the slice at 'a' reads as -/
def Rd (w : World) (a : Option Addr) (bs : List UInt8) : Prop :=
  ∀ i, i < bs.length → ∃ b off, a = some ⟨b, off, none⟩ ∧ w.cell? ⟨b, off + i, none⟩ = some (.int .u8 (byteAt bs i))

theorem Rd.open {w : World} {a : Option Addr} {bs : List UInt8} (h : Rd w a bs) (hp : 0 < bs.length) :
    ∃ b off, a = some ⟨b, off, none⟩ ∧ b < w.heap.size ∧ ∀ i, i < bs.length → w.cell? ⟨b, off + i, none⟩ = some (.int .u8 (byteAt bs i)) := by
  obtain ⟨b, off, rfl, h0⟩ := h 0 hp
  refine ⟨b, off, rfl, World.block_lt_of_cell? w _ h0, fun i hi => ?_⟩
  obtain ⟨b2, off2, e, h1⟩ := h i hi
  simp only [Option.some.injEq, Addr.mk.injEq] at e
  rw [e.1, e.2.1]; exact h1

theorem Rd.below {w w' : World} {a : Option Addr} {bs : List UInt8} (h : Rd w a bs) (hb : Below w.heap.size w w') : Rd w' a bs := by
  intro i hi
  obtain ⟨b, off, e, hc⟩ := h i hi
  exact ⟨b, off, e, by rw [hb.cell (p := ⟨b, off + i, none⟩) (World.block_lt_of_cell? w _ hc)]; exact hc⟩

theorem Rd.heap {w w' : World} {a : Option Addr} {bs : List UInt8} (h : Rd w a bs) (hb : w'.heap = w.heap) : Rd w' a bs := by
  intro i hi
  obtain ⟨b, off, e, hc⟩ := h i hi
  exact ⟨b, off, e, by rw [← hc]; simp [World.cell?, hb]⟩

/-- what a call's own row of bytes reads as -/
theorem rd_owns {w : World} {base n : Nat} {v : Value} {bs : List UInt8} (h : w.ownsRow base 5 1 v n (vals bs)) :
    ∃ a cap, v = .slice a bs.length cap ∧ Rd w a bs ∧ n = bs.length := by
  have hn : n = bs.length := by have := h.1; rw [vals_length] at this; omega
  subst hn
  rcases h.2 with ⟨rfl, h0⟩ | ⟨g, cap, cur, rfl, hb, hg, hnc, hcm, hsz, htake⟩
  · exact ⟨none, 0, by rw [h0], fun i hi => by omega, rfl⟩
  · refine ⟨_, cap, rfl, fun i hi => ⟨g, 0, rfl, ?_⟩, rfl⟩
    have := h.cellAt i (by omega)
    rw [vals_get hi] at this
    rw [← this]; simp

/-- the row of bytes that came in -/
def IsRow (k : IntKind) (w : World) (a : Option Addr) (len cap : Nat) (zs : List Int) : Prop :=
  (a = none ∧ len = 0 ∧ cap = 0 ∧ zs = []) ∨
  ∃ x, a = some x ∧ len ≤ cap ∧ cap ≤ maxLen ∧ zs.length = cap ∧ (∀ i, i < zs.length → w.cell? (x.add i) = some (.int k (zs.getD i 0))) ∧ ∀ n ∈ zs, (Lit.int k n).wf = true

theorem isRow_len {k : IntKind} {w : World} {a : Option Addr} {len cap : Nat} {zs : List Int} (h : IsRow k w a len cap zs) : len ≤ maxLen := by
  rcases h with ⟨rfl, rfl, rfl, rfl⟩ | ⟨x, rfl, hl, hm, hz, hcell, hwz⟩
  · exact Nat.zero_le _
  · exact Nat.le_trans hl hm
theorem below_drewN (B : Nat) (w : World) (n : Nat) : Below B w (w.drewN n) := ⟨rfl, rfl, rfl, Nat.le_refl _, fun _ _ => rfl⟩

theorem rd_row {w : World} {a : Option Addr} {len cap : Nat} {zs : List Int} (h : IsRow .u8 w a len cap zs) :
    ∃ bs : List UInt8, bs.length = len ∧ Rd w a bs := by
  rcases h with ⟨rfl, rfl, rfl, rfl⟩ | ⟨x, rfl, hl, hm, hz, hcell, hwz⟩
  · exact ⟨[], rfl, fun i hi => by simp at hi⟩
  · refine ⟨(zs.take len).map (fun n => UInt8.ofNat n.toNat), by simp; omega, fun i hi => ?_⟩
    have hi2 : i < len := by simp at hi; omega
    obtain ⟨b, off, spot⟩ := x
    have hc := hcell i (by omega)
    have hs : spot = none := by
      have h0 := hcell 0 (by omega)
      simpa [Addr.add] using World.cell?_spot h0
    subst hs
    refine ⟨b, off, rfl, ?_⟩
    have e : (⟨b, off, none⟩ : Addr).add i = ⟨b, off + i, none⟩ := Addr.add_lit _ _ _
    rw [e] at hc
    rw [hc]
    have hiz : i < zs.length := by omega
    have hw := hwz zs[i] (List.getElem_mem hiz)
    have hb := bounds_u8 hw
    unfold byteAt
    simp [List.getD, hiz, hi2]
    omega

theorem rd_cells {w : World} {p : Addr} {bs : List UInt8} (hr : Rd w (some p) bs) : ∀ j u, (vals bs)[j]? = some u → w.cell? (p.add j) = some u := by
  intro j u hj
  have hl : j < bs.length := by have := (List.getElem?_eq_some_iff.1 hj).1; rw [vals_length] at this; exact this
  rw [vals_get hl] at hj
  obtain ⟨b, off, e, hc⟩ := hr j hl
  simp only [Option.some.injEq] at e
  subst e
  rw [Addr.add_lit, hc]; exact hj

/-- a row of the call's own, at hand for the readers -/
theorem rd_owns_cap {w : World} {base n : Nat} {v : Value} {bs : List UInt8} (h : w.ownsRow base 5 1 v n (vals bs)) :
    ∃ a cap, v = .slice a bs.length cap ∧ Rd w a bs ∧ bs.length ≤ cap ∧ (a = none → bs.length = 0 ∧ cap = 0) := by
  have hn : n = bs.length := by have := h.1; rw [vals_length] at this; omega
  subst hn
  obtain ⟨a, cap, e, hr, -⟩ := rd_owns h
  rcases h.2 with ⟨h1, h0⟩ | ⟨g, cap', cur, h1, hb, hg, hnc, hcm, hsz, htake⟩
  · rw [e] at h1
    simp only [Value.slice.injEq] at h1
    exact ⟨a, cap, e, hr, by omega, fun _ => ⟨h0, h1.2.2⟩⟩
  · rw [e] at h1
    simp only [Value.slice.injEq] at h1
    exact ⟨a, cap, e, hr, by omega, fun hh => by rw [h1.1] at hh; cases hh⟩

end Go.Proofs.YtaflokfgbmlmaacDoor
/-
  Plain facts on bits of an int that is not below 0.
-/
namespace Go.Proofs.YtaflokfgbmlmaacDoor
open Go.RowKit
set_option linter.unusedVariables false

theorem i64_xor_nat (a b : Nat) (ha : a < 9223372036854775808) (hb : b < 9223372036854775808) : bits .xor .i64 (a : Int) (b : Int) = ((a ^^^ b : Nat) : Int) := by
  have hx : a ^^^ b < 2 ^ 63 := Nat.xor_lt_two_pow (by omega) (by omega)
  show IntKind.i64.wrap ((BitVec.ofInt 64 (a : Int) ^^^ BitVec.ofInt 64 (b : Int)).toNat : Int) = _
  rw [BitVec.toNat_xor, ofInt_u64 a (by omega), ofInt_u64 b (by omega)]
  exact IntWalk.i64_in _ (by omega)
theorem i64_and_nat (a b : Nat) (ha : a < 9223372036854775808) (hb : b < 9223372036854775808) : bits .and .i64 (a : Int) (b : Int) = ((a &&& b : Nat) : Int) := by
  have hx : a &&& b < 2 ^ 63 := Nat.and_lt_two_pow _ (by omega)
  show IntKind.i64.wrap ((BitVec.ofInt 64 (a : Int) &&& BitVec.ofInt 64 (b : Int)).toNat : Int) = _
  rw [BitVec.toNat_and, ofInt_u64 a (by omega), ofInt_u64 b (by omega)]
  exact IntWalk.i64_in _ (by omega)
theorem i64_or_nat (a b : Nat) (ha : a < 9223372036854775808) (hb : b < 9223372036854775808) : bits .or .i64 (a : Int) (b : Int) = ((a ||| b : Nat) : Int) := by
  have hx : a ||| b < 2 ^ 63 := Nat.or_lt_two_pow (by omega) (by omega)
  show IntKind.i64.wrap ((BitVec.ofInt 64 (a : Int) ||| BitVec.ofInt 64 (b : Int)).toNat : Int) = _
  rw [BitVec.toNat_or, ofInt_u64 a (by omega), ofInt_u64 b (by omega)]
  exact IntWalk.i64_in _ (by omega)

theorem u8_and127 (c : Int) (h0 : 0 ≤ c) (h1 : c ≤ 255) : bits .and .u8 c 127 = c % 128 := by
  have := u8_and c 127 h0 (by omega) (by omega) (by omega)
  rw [this, show (127 : Int).toNat = 127 from rfl, nat_mask7]
  omega

/-- the sum's step on one bit -/
def cstep (x : Nat) : Nat := if x % 2 = 1 then (x / 2) ^^^ 2197175160 else x / 2
def cstepN : Nat → Nat → Nat
  | 0, x => x
  | k + 1, x => cstep (cstepN k x)
def cbyte (x c : Nat) : Nat := cstepN 8 (x ^^^ c)
theorem cstep_lt {x : Nat} (h : x < 4294967296) : cstep x < 4294967296 := by
  unfold cstep
  split
  · exact Nat.xor_lt_two_pow (n := 32) (by omega) (by omega)
  · omega
theorem cstepN_lt {x : Nat} (h : x < 4294967296) : ∀ k, cstepN k x < 4294967296
  | 0 => h
  | k + 1 => cstep_lt (cstepN_lt h k)
theorem cxor_lt {x c : Nat} (h : x < 4294967296) (hc : c < 4294967296) : x ^^^ c < 4294967296 := Nat.xor_lt_two_pow (n := 32) (by omega) (by omega)
theorem cbyte_lt {x c : Nat} (h : x < 4294967296) (hc : c < 256) : cbyte x c < 4294967296 := cstepN_lt (cxor_lt h (by omega)) 8
end Go.Proofs.YtaflokfgbmlmaacDoor
/-
  The contracts of the draws' cursor: what stands in its block, and what each step answers (a number within its bounds); no step touches another block that was there.
-/
namespace Go.Proofs.YtaflokfgbmlmaacDoor
open Go.RowKit
set_option linter.unusedVariables false

theorem i64_and255 (n : Int) : bits .and .i64 n 255 = n % 256 := by
  have h255 : (BitVec.ofInt 64 255).toNat = 2 ^ 8 - 1 := by decide
  have key : (BitVec.ofInt 64 n &&& BitVec.ofInt 64 255).toNat = (n % ((2 ^ 64 : Nat) : Int)).toNat % 2 ^ 8 := by
    rw [BitVec.toNat_and, BitVec.toNat_ofInt, h255, Nat.and_two_pow_sub_one_eq_mod]
  show IntKind.i64.wrap ((BitVec.ofInt 64 n &&& BitVec.ofInt 64 255).toNat : Nat) = n % 256
  rw [key, IntKind.wrap_i64]
  omega

/-- the slice at 'a' reads as bs, below block B -/
def RdB (B : Nat) (w : World) (a : Option Addr) (bs : List UInt8) : Prop :=
  ∀ i, i < bs.length → ∃ b off, a = some ⟨b, off, none⟩ ∧ b < B ∧ w.cell? ⟨b, off + i, none⟩ = some (.int .u8 (byteAt bs i))
theorem RdB.below {B : Nat} {w w' : World} {a : Option Addr} {bs : List UInt8} (h : RdB B w a bs) (hb : Below B w w') : RdB B w' a bs := by
  intro i hi
  obtain ⟨b, off, e, hl, hc⟩ := h i hi
  exact ⟨b, off, e, hl, by rw [hb.cell (p := ⟨b, off + i, none⟩) hl]; exact hc⟩
theorem Rd.toB {w : World} {a : Option Addr} {bs : List UInt8} (h : Rd w a bs) : RdB w.heap.size w a bs := by
  intro i hi
  obtain ⟨b, off, e, hc⟩ := h i hi
  exact ⟨b, off, e, World.block_lt_of_cell? w _ hc, hc⟩
theorem RdB.toRd {B : Nat} {w : World} {a : Option Addr} {bs : List UInt8} (h : RdB B w a bs) : Rd w a bs := by
  intro i hi
  obtain ⟨b, off, e, hl, hc⟩ := h i hi
  exact ⟨b, off, e, hc⟩

/-- block q holds a cursor over bytes below B -/
def Cur (B : Nat) (w : World) (q : Nat) : Prop := B ≤ q ∧ ∃ (a : Option Addr) (cap : Nat) (code : List UInt8) (i : Nat) (h : Int),
  code.length ≤ 1048576 ∧ i ≤ code.length ∧ RdB B w a code ∧ w.heap[q]? = some (.cells #[.slice a code.length cap, .int .i64 (i : Int), .int .i64 h] 119 (0, 0))

theorem Cur.lt {B q : Nat} {w : World} (h : Cur B w q) : q < w.heap.size := by
  obtain ⟨_, a, cap, code, i, hh, _, _, _, hg⟩ := h
  exact (Array.getElem?_eq_some_iff.1 hg).1
theorem Cur.keep {B q : Nat} {w w' : World} {row : Option Nat} (h : Cur B w q) (hg : w.grownBy w' row) (hr : row ≠ some q) (hB : ∀ k, row = some k → B ≤ k) : Cur B w' q := by
  have hlt := h.lt
  obtain ⟨hb, a, cap, code, i, hh, h1, h2, h3, h4⟩ := h
  refine ⟨hb, a, cap, code, i, hh, h1, h2, h3.below ((Below.refl _ _).grown hg (by omega) hB), ?_⟩
  rw [hg.block q hlt (fun e => hr e.symm)]; exact h4

theorem struct_cell {w : World} {q : Nat} {c0 c1 c2 : Value} {T : TypeId} (h : w.heap[q]? = some (.cells #[c0, c1, c2] T (0, 0))) :
    w.cell? ⟨q, 0, none⟩ = some c0 ∧ w.cell? ⟨q, 1, none⟩ = some c1 ∧ w.cell? ⟨q, 2, none⟩ = some c2 ∧ (∀ j, w.frozen? ⟨q, j, none⟩ = false) := by
  refine ⟨?_, ?_, ?_, ?_⟩
  · rw [cell_of_row w q 0 _ T (0, 0) h]; rfl
  · rw [cell_of_row w q 1 _ T (0, 0) h]; rfl
  · rw [cell_of_row w q 2 _ T (0, 0) h]; rfl
  · intro j; exact frozen_of_row w q j _ T h

theorem struct_set2 {w : World} {q : Nat} {c0 c1 c2 : Value} {T : TypeId} (h : w.heap[q]? = some (.cells #[c0, c1, c2] T (0, 0))) (u : Value) :
    (w.setCell ⟨q, 2, none⟩ u).heap[q]? = some (.cells #[c0, c1, u] T (0, 0)) ∧ w.grownBy (w.setCell ⟨q, 2, none⟩ u) (some q) := by
  refine ⟨?_, ⟨rfl, rfl, rfl, by simp [World.setCell], fun k _ hk => heap_setCell_other w ⟨q, 2, none⟩ k u (fun e => hk (by simp [e]))⟩⟩
  rw [heap_setCell_same w q 2 _ T u h]; rfl
theorem struct_set1 {w : World} {q : Nat} {c0 c1 c2 : Value} {T : TypeId} (h : w.heap[q]? = some (.cells #[c0, c1, c2] T (0, 0))) (u : Value) :
    (w.setCell ⟨q, 1, none⟩ u).heap[q]? = some (.cells #[c0, u, c2] T (0, 0)) ∧ w.grownBy (w.setCell ⟨q, 1, none⟩ u) (some q) := by
  refine ⟨?_, ⟨rfl, rfl, rfl, by simp [World.setCell], fun k _ hk => heap_setCell_other w ⟨q, 1, none⟩ k u (fun e => hk (by simp [e]))⟩⟩
  rw [heap_setCell_same w q 1 _ T u h]; rfl
theorem grown_trans {a b c : World} {row : Option Nat} (h : a.grownBy b row) (k : b.grownBy c row) : a.grownBy c row :=
  ⟨k.os.trans h.os, k.tape.trans h.tape, k.output.trans h.output, Nat.le_trans h.size k.size, fun i hi hne => (k.block i (Nat.lt_of_lt_of_le hi h.size) hne).trans (h.block i hi hne)⟩
theorem grown_drewN {w w' : World} {row : Option Nat} (h : w.grownBy w' row) (n : Nat) : w.grownBy (w'.drewN n) row := ⟨h.os, h.tape, h.output, h.size, h.block⟩

theorem cur_step {B q cap i : Nat} {w1 : World} {a : Option Addr} {code : List UInt8} {H : Int} (hb : B ≤ q) (hl : code.length ≤ 1048576) (hi : i < code.length) (hr : RdB B w1 a code)
    (hg : w1.heap[q]? = some (.cells #[.slice a code.length cap, .int .i64 (i : Int), .int .i64 H] 119 (0, 0))) (n : Nat) :
    Cur B ((w1.drewN n).setCell ⟨q, 1, none⟩ (.int .i64 ((i : Int) + 1))) q ∧ w1.grownBy ((w1.drewN n).setCell ⟨q, 1, none⟩ (.int .i64 ((i : Int) + 1))) (some q) := by
  obtain ⟨hg2, gr2⟩ := struct_set1 (w := w1.drewN n) hg (.int .i64 ((i : Int) + 1))
  have gr3 : w1.grownBy ((w1.drewN n).setCell ⟨q, 1, none⟩ (.int .i64 ((i : Int) + 1))) (some q) := ⟨gr2.os, gr2.tape, gr2.output, gr2.size, gr2.block⟩
  have hq := (Array.getElem?_eq_some_iff.1 hg).1
  refine ⟨⟨hb, a, cap, code, i + 1, H, hl, hi, hr.below ((Below.refl B w1).grown gr3 (by omega) (fun k hk => by cases hk; exact hb)), ?_⟩, gr3⟩
  rw [hg2]; rfl
theorem cur_stay {B q cap i : Nat} {w1 : World} {a : Option Addr} {code : List UInt8} {H : Int} (hb : B ≤ q) (hl : code.length ≤ 1048576) (hi : i ≤ code.length) (hr : RdB B w1 a code)
    (hg : w1.heap[q]? = some (.cells #[.slice a code.length cap, .int .i64 (i : Int), .int .i64 H] 119 (0, 0))) (n m : Nat) :
    Cur B ((w1.drewN n).drewN m) q ∧ w1.grownBy ((w1.drewN n).drewN m) (some q) :=
  ⟨⟨hb, a, cap, code, i, H, hl, hi, hr.below ⟨rfl, rfl, rfl, Nat.le_refl _, fun _ _ => rfl⟩, hg⟩, ⟨rfl, rfl, rfl, Nat.le_refl _, fun _ _ _ => rfl⟩⟩

set_option maxHeartbeats 1600000 in
theorem l1Byte_any (B q : Nat) (w : World) (hc : Cur B w q) :
    Calls Tryd.prog 110 #[.pointer (some ⟨q, 0, none⟩)] w fun e w' => ∃ x : Int, e = .returned (.int .i64 x) ∧ 0 ≤ x ∧ x ≤ 255 ∧ Cur B w' q ∧ w.grownBy w' (some q) := by
  obtain ⟨hb, a, cap, code, i, h, hl, hi, hr, hg⟩ := hc
  have HG := hide hg
  obtain ⟨c0, c1, c2, cf⟩ := struct_cell hg
  have f2 := cf 2
  clear cf hg
  have h255 := i64_and255
  go_enter Tryd.func110, Tryd.ntmps110
  go_wp2
  generalize wrap64 (h * 6364136223846793005) = H1
  generalize wrap64 (H1 + 1442695040888963407) = H
  obtain ⟨hg1, gr1⟩ := struct_set2 HG.out (.int .i64 H)
  have HR := hide (hr.below ((Below.refl B w).grown gr1 (by have := (Array.getElem?_eq_some_iff.1 HG.out).1; omega) (fun k hk => by cases hk; exact hb)))
  have HG1 := hide hg1
  have HR1 := hide gr1
  clear c0 c1 c2 f2 hr gr1 HG
  generalize w.setCell ⟨q, 2, none⟩ (.int .i64 H) = w1 at hg1 HR HG1 HR1 ⊢
  obtain ⟨c0, c1, c2, cf⟩ := struct_cell hg1
  have f1 := cf 1
  clear cf hg1
  go_quiet (fail)
  go_wp2
  have hx0 := Int.emod_nonneg (bits BinOp.xor IntKind.i64 (H / 8589934592) (H / 140737488355328)) (show (256 : Int) ≠ 0 by omega)
  have hx1 := Int.emod_lt_of_pos (bits BinOp.xor IntKind.i64 (H / 8589934592) (H / 140737488355328)) (show (0 : Int) < 256 by omega)
  generalize bits BinOp.xor IntKind.i64 (H / 8589934592) (H / 140737488355328) % 256 = x at hx0 hx1 ⊢
  by_cases hlt : i < code.length
  · obtain ⟨b, off, hab, hbB, hcell⟩ := HR.out i hlt
    have hi2 : (i : Int) < (code.length : Int) := by omega
    have y1 := byteAt_lo code i
    have y2 := byteAt_hi code i
    generalize byteAt code i = y at hcell y1 y2
    subst hab
    go_quiet (fail)
    go_wp2
    go_quiet (fail)
    go_wp2
    go_ret
    have CS := cur_step hb hl hlt HR.out HG1.out
    exact ⟨_, rfl, by omega, by omega, (CS _).1, grown_trans HR1.out (CS _).2⟩
  · go_quiet (fail)
    go_wp2
    go_ret
    have CS := cur_stay hb hl hi HR.out HG1.out
    exact ⟨_, rfl, by omega, by omega, (CS _ _).1, grown_trans HR1.out (CS _ _).2⟩

set_option maxHeartbeats 1600000 in
theorem l1Below_any (B q : Nat) (n : Int) (w : World) (hc : Cur B w q) (hn : 0 < n) (hn2 : n ≤ 1000000) :
    Calls Tryd.prog 67 #[.pointer (some ⟨q, 0, none⟩), .int .i64 n] w fun e w' => ∃ x : Int, e = .returned (.int .i64 x) ∧ 0 ≤ x ∧ x < n ∧ Cur B w' q ∧ w.grownBy w' (some q) := by
  by_cases hs : n ≤ 256
  · go_enter Tryd.func67, Tryd.ntmps67
    go_wp2_with fail
    refine (l1Byte_any B q w hc).mono ?_
    rintro e w1 ⟨x, rfl, x0, x1, c1, g1⟩
    go_wp2
    go_ret
    exact ⟨_, rfl, Int.emod_nonneg _ (by omega), Int.emod_lt_of_pos _ hn, c1, g1⟩
  · go_enter Tryd.func67, Tryd.ntmps67
    go_wp2_with fail
    refine (l1Byte_any B q w hc).mono ?_
    rintro e w1 ⟨x, rfl, x0, x1, c1, g1⟩
    go_wp2_with fail
    refine (l1Byte_any B q w1 c1).mono ?_
    rintro e w2 ⟨y, rfl, y0, y1, c2, g2⟩
    go_wp2_with fail
    refine (l1Byte_any B q w2 c2).mono ?_
    rintro e w3 ⟨z, rfl, z0, z1, c3, g3⟩
    go_wp2
    go_ret
    exact ⟨_, rfl, Int.emod_nonneg _ (by omega), Int.emod_lt_of_pos _ hn, c3, grown_trans (grown_trans g1 g2) g3⟩

set_option maxHeartbeats 1600000 in
theorem l1Int_any (B q l : Nat) (zs : List Int) (cap : Nat) (w : World) (hc : Cur B w q) (hn : 0 < zs.length) (hn2 : zs.length ≤ 1000) (hq : l ≠ q)
    (hz : ∀ k, k < zs.length → w.cell? ⟨l, k, none⟩ = some (.int .i64 (zs.getD k 0))) :
    Calls Tryd.prog 90 #[.pointer (some ⟨q, 0, none⟩), .slice (some ⟨l, 0, none⟩) zs.length cap] w fun e w' => ∃ x : Int, e = .returned (.int .i64 x) ∧ x ∈ zs ∧ Cur B w' q ∧ w.grownBy w' (some q) := by
  obtain ⟨n, hN⟩ : ∃ n, n = zs.length := ⟨_, rfl⟩
  rw [← hN] at hn hn2 hz ⊢
  have HZ := hide hz
  have HN := hide hN
  clear hz hN
  go_enter Tryd.func90, Tryd.ntmps90
  go_wp2_with fail
  refine (l1Below_any B q n w hc (by omega) (by omega)).mono ?_
  rintro e w1 ⟨x, rfl, x0, x1, c1, g1⟩
  obtain ⟨k, rfl⟩ := Int.eq_ofNat_of_zero_le x0
  have hk : k < n := by omega
  have h1 : w1.cell? ⟨l, k, none⟩ = some (.int .i64 (zs.getD k 0)) := g1.cell (HZ.out k hk) (by simp; exact hq)
  have HM : Hid (zs.getD k 0 ∈ zs) := by
    have hk2 : k < zs.length := by rw [← HN.out]; exact hk
    unfold Hid
    simp [List.getD, hk2]
  generalize zs.getD k 0 = z at h1 HM
  go_wp2
  go_ret
  exact ⟨_, rfl, HM.out, c1, g1⟩
end Go.Proofs.YtaflokfgbmlmaacDoor
/-
  Numbers in bytes, plainly: what GetNum reads (numR) and what PutNum writes (encN), and that they are inverse. No program is spoken of here.
-/
namespace Go.Proofs.YtaflokfgbmlmaacDoor
open Go.RowKit
set_option linter.unusedVariables false

def accN (bs : List UInt8) (A : Nat) : Nat → Nat
  | 0 => 0
  | k + 1 => accN bs A k + (byteAt bs (A + k)).toNat % 128 * 128 ^ k
theorem accN_lt (bs : List UInt8) (A : Nat) : ∀ k, accN bs A k < 128 ^ k
  | 0 => by show 0 < 1; omega
  | k + 1 => by
    have h := accN_lt bs A k
    show accN bs A k + (byteAt bs (A + k)).toNat % 128 * 128 ^ k < 128 ^ (k + 1)
    have h2 : (byteAt bs (A + k)).toNat % 128 ≤ 127 := by omega
    have h3 := Nat.mul_le_mul_right (128 ^ k) h2
    rw [Nat.pow_succ]
    omega
/-- where the last group of a number stands: the first byte below 128, at most five bytes on -/
def scanN (bs : List UInt8) (A : Nat) : Nat → Nat → Option Nat
  | 0, _ => none
  | f + 1, k => if A + k < bs.length then (if byteAt bs (A + k) < 128 then some k else scanN bs A f (k + 1)) else none
def unfN (m : Nat) : Int := if m % 2 = 1 then -((m / 2 : Nat) : Int) - 1 else ((m / 2 : Nat) : Int)
/-- what GetNum answers -/
def numR (bs : List UInt8) (at' : Int) : Int × Int × Bool :=
  if at' < 0 then (0, 0, false)
  else match scanN bs at'.toNat 5 0 with
    | none => (0, 0, false)
    | some k => if (k ≠ 0 ∧ byteAt bs (at'.toNat + k) = 0) ∨ 2000000000 < accN bs at'.toNat (k + 1) then (0, 0, false)
      else (unfN (accN bs at'.toNat (k + 1)), at' + k + 1, true)

theorem scanN_out {bs : List UInt8} {A : Nat} (h : bs.length ≤ A) (f k : Nat) : scanN bs A f k = none := by
  cases f with
  | zero => rfl
  | succ f => unfold scanN; rw [if_neg (by omega)]
theorem or_acc {a x k : Nat} (ha : a < 128 ^ k) : a ||| (x * 128 ^ k) = a + x * 128 ^ k := by
  have e : (128 : Nat) ^ k = 2 ^ (7 * k) := by rw [Nat.pow_mul]
  rw [e] at ha ⊢
  rw [Nat.or_comm, Nat.add_comm]
  exact nat_join (7 * k) (x * 2 ^ (7 * k)) a (Nat.mul_mod_left _ _) ha
theorem pow128_le {k : Nat} (h : k ≤ 5) : 128 ^ k ≤ 34359738368 := by
  have : (128 : Nat) ^ k ≤ 128 ^ 5 := Nat.pow_le_pow_right (by omega) h
  exact this
theorem or_step {m k : Nat} {c : Int} (hm : m < 128 ^ k) (hk : k < 5) (h0 : 0 ≤ c) (h1 : c ≤ 255) :
    bits .or .i64 (m : Int) (wrap64 (c % 128 * 2 ^ (7 * k))) = ((m + c.toNat % 128 * 128 ^ k : Nat) : Int) := by
  obtain ⟨d, rfl⟩ := Int.eq_ofNat_of_zero_le h0
  have hp := pow128_le (k := k) (by omega)
  have e : ((d : Int) % 128 * 2 ^ (7 * k)) = ((d % 128 * 128 ^ k : Nat) : Int) := by
    have e2 : ((2 : Int) ^ (7 * k)) = ((128 ^ k : Nat) : Int) := by
      rw [show (128 : Nat) ^ k = 2 ^ (7 * k) by rw [Nat.pow_mul]]
      exact (Int.natCast_pow 2 (7 * k)).symm
    rw [e2, Int.natCast_mul]
    rfl
  have hb : d % 128 * 128 ^ k ≤ 127 * 34359738368 := Nat.mul_le_mul (by omega) hp
  rw [e, IntWalk.wrap64_in _ (by omega), i64_or_nat _ _ (by omega) (by omega), or_acc hm]
  simp
theorem scanN_end {bs : List UInt8} {A k : Nat} (h5 : k < 5) (h : ¬ A + k < bs.length) : scanN bs A (5 - k) k = none := by
  rw [show 5 - k = (4 - k) + 1 by omega]
  unfold scanN
  rw [if_neg h]
theorem scanN_last {bs : List UInt8} {A k : Nat} (h5 : k < 5) (h : A + k < bs.length) (hc : byteAt bs (A + k) < 128) : scanN bs A (5 - k) k = some k := by
  rw [show 5 - k = (4 - k) + 1 by omega]
  unfold scanN
  rw [if_pos h, if_pos hc]
theorem scanN_more {bs : List UInt8} {A k : Nat} (h5 : k < 5) (h : A + k < bs.length) (hc : ¬ byteAt bs (A + k) < 128) : scanN bs A (5 - k) k = scanN bs A (5 - (k + 1)) (k + 1) := by
  rw [show 5 - k = (5 - (k + 1)) + 1 by omega]
  rw [scanN, if_pos h, if_neg hc]
theorem scanN_ge {bs : List UInt8} {A : Nat} : ∀ f k r, scanN bs A f k = some r → k ≤ r ∧ r < k + f
  | 0, k, r, h => by simp [scanN] at h
  | f + 1, k, r, h => by
    unfold scanN at h
    split at h
    · split at h
      · simp at h; omega
      · have := scanN_ge f (k + 1) r h; omega
    · simp at h
theorem scanN_lt {bs : List UInt8} {A r : Nat} (h : scanN bs A 5 0 = some r) : r < 5 := by have := scanN_ge 5 0 r h; omega
theorem numR_none {bs : List UInt8} {A : Nat} (h : scanN bs A 5 0 = none) : numR bs (A : Int) = (0, 0, false) := by
  unfold numR
  rw [if_neg (by omega), Int.toNat_natCast, h]
theorem numR_some {bs : List UInt8} {A k : Nat} (h : scanN bs A 5 0 = some k) : numR bs (A : Int) = if (k ≠ 0 ∧ byteAt bs (A + k) = 0) ∨ 2000000000 < accN bs A (k + 1) then (0, 0, false) else (unfN (accN bs A (k + 1)), (A : Int) + k + 1, true) := by
  unfold numR
  rw [if_neg (by omega), Int.toNat_natCast, h]
theorem numR_neg {bs : List UInt8} {a : Int} (h : a < 0) : numR bs a = (0, 0, false) := by
  unfold numR
  rw [if_pos h]
theorem numR_past {bs : List UInt8} {a : Int} (h : (bs.length : Int) ≤ a) : numR bs a = (0, 0, false) := by
  obtain ⟨A, rfl⟩ := Int.eq_ofNat_of_zero_le (show 0 ≤ a by omega)
  exact numR_none (scanN_out (by omega) _ _)
theorem unfN_odd {m : Nat} (h : m % 2 = 1) : unfN m = -((m : Int) / 2) - 1 := by unfold unfN; rw [if_pos h]; omega
theorem unfN_even {m : Nat} (h : ¬ m % 2 = 1) : unfN m = (m : Int) / 2 := by unfold unfN; rw [if_neg h]; omega
theorem unfN_in (m : Nat) : inB (unfN m) (-1000000000) 1000000000 = !decide (2000000000 < m) := by
  by_cases h : m % 2 = 1
  · rw [unfN_odd h]
    by_cases h2 : 2000000000 < m
    · rw [inB_f (by omega)]; simp [h2]
    · rw [inB_t (by omega)]; simp [h2]
  · rw [unfN_even h]
    by_cases h2 : 2000000000 < m
    · rw [inB_f (by omega)]; simp [h2]
    · rw [inB_t (by omega)]; simp [h2]
theorem ret_num {bs : List UInt8} {A : Nat} {x y : Int} {z : Bool} (h : numR bs (A : Int) = (x, y, z)) :
    Ending.returned (.tuple #[.int .i64 x, .int .i64 y, .bool z]) = .returned (.tuple #[.int .i64 (numR bs (A : Int)).1, .int .i64 (numR bs (A : Int)).2.1, .bool (numR bs (A : Int)).2.2]) := by rw [h]

/-- what the groups at a place hold: the number as it was folded, the place behind, whether the form is the shortest -/
def grpR (bs : List UInt8) (A : Nat) : Int × Int × Bool :=
  match scanN bs A 5 0 with
  | none => (0, 0, false)
  | some k => (((accN bs A (k + 1) : Nat) : Int), (A : Int) + k + 1, k == 0 || byteAt bs (A + k) != 0)
theorem grpR_none {bs : List UInt8} {A : Nat} (h : scanN bs A 5 0 = none) : grpR bs A = (0, 0, false) := by unfold grpR; rw [h]
theorem grpR_some {bs : List UInt8} {A k : Nat} (h : scanN bs A 5 0 = some k) : grpR bs A = (((accN bs A (k + 1) : Nat) : Int), (A : Int) + k + 1, k == 0 || byteAt bs (A + k) != 0) := by unfold grpR; rw [h]
theorem ret_grp {bs : List UInt8} {A : Nat} {x y : Int} {z : Bool} (h : grpR bs A = (x, y, z)) :
    Ending.returned (.tuple #[.int .i64 x, .int .i64 y, .bool z]) = .returned (.tuple #[.int .i64 (grpR bs A).1, .int .i64 (grpR bs A).2.1, .bool (grpR bs A).2.2]) := by rw [h]
/-- the number out of its groups -/
theorem numR_grp (bs : List UInt8) (A : Nat) : ∃ M : Nat, M < 34359738368 ∧ (grpR bs A).1 = (M : Int) ∧
    numR bs (A : Int) = if (grpR bs A).2.2 = false ∨ 2000000000 < M then (0, 0, false) else (unfN M, (grpR bs A).2.1, true) := by
  cases h : scanN bs A 5 0 with
  | none => exact ⟨0, by omega, by rw [grpR_none h]; rfl, by rw [numR_none h, grpR_none h]; simp⟩
  | some k =>
    have hk : k < 5 := scanN_lt h
    have hlt := accN_lt bs A (k + 1)
    have hp := pow128_le (k := k + 1) (by omega)
    refine ⟨accN bs A (k + 1), by omega, by rw [grpR_some h], ?_⟩
    rw [numR_some h, grpR_some h]
    by_cases h1 : k = 0 <;> by_cases h2 : byteAt bs (A + k) = 0 <;> by_cases h3 : 2000000000 < accN bs A (k + 1) <;> simp [h1, h2, h3]

theorem scanN_some {bs : List UInt8} {A : Nat} : ∀ f k r, scanN bs A f k = some r → A + r < bs.length
  | 0, k, r, h => by simp [scanN] at h
  | f + 1, k, r, h => by
    unfold scanN at h
    split at h
    · split at h
      · simp at h; omega
      · exact scanN_some f (k + 1) r h
    · simp at h
/-- a number that was read lies within the bytes -/
theorem numR_true {bs : List UInt8} {x : Int} (h : (numR bs x).2.2 = true) : 0 ≤ x ∧ x < (numR bs x).2.1 ∧ (numR bs x).2.1 ≤ bs.length := by
  by_cases h0 : x < 0
  · rw [numR_neg h0] at h; cases h
  · obtain ⟨A, rfl⟩ := Int.eq_ofNat_of_zero_le (show 0 ≤ x by omega)
    cases hs : scanN bs A 5 0 with
    | none => rw [numR_none hs] at h; cases h
    | some k =>
      rw [numR_some hs] at h ⊢
      split at h
      · cases h
      · rename_i hc
        rw [if_neg hc]
        have := scanN_some 5 0 k hs
        simp only
        omega
end Go.Proofs.YtaflokfgbmlmaacDoor
/-
  Numbers as bytes, plainly: what PutNum writes behind. No program is spoken of here.
-/
namespace Go.Proofs.YtaflokfgbmlmaacDoor
open Go.RowKit
set_option linter.unusedVariables false

/-- the number as it is kept: no further out than the most either way -/
def clampN (n : Int) : Int := if n < -1000000000 then -1000000000 else if 1000000000 < n then 1000000000 else n
def foldN (n : Int) : Nat := if n < 0 then (-2 * n - 1).toNat else (2 * n).toNat
/-- its groups of seven bits, the lowest first -/
def encG : Nat → Nat → List UInt8
  | 0, m => [UInt8.ofNat m]
  | f + 1, m => if m < 128 then [UInt8.ofNat m] else UInt8.ofNat (m % 128 + 128) :: encG f (m / 128)
def encN (n : Int) : List UInt8 := encG 5 (foldN (clampN n))

theorem clampN_in (n : Int) : -1000000000 ≤ clampN n ∧ clampN n ≤ 1000000000 := by unfold clampN; split; omega; split <;> omega
theorem foldN_le {n : Int} (h : -1000000000 ≤ n ∧ n ≤ 1000000000) : foldN n ≤ 2000000000 := by unfold foldN; split <;> omega
theorem foldN_neg {n : Int} (h : n < 0) : ((foldN n : Nat) : Int) = -2 * n - 1 := by unfold foldN; rw [if_pos h]; omega
theorem foldN_pos {n : Int} (h : ¬ n < 0) : ((foldN n : Nat) : Int) = 2 * n := by unfold foldN; rw [if_neg h]; omega
theorem fold_cases (n : Int) : (1000000000 < n ∧ ((foldN (clampN n) : Nat) : Int) = 2000000000) ∨ (n < -1000000000 ∧ ((foldN (clampN n) : Nat) : Int) = 1999999999) ∨
    ((-1000000000 ≤ n ∧ n < 0) ∧ ((foldN (clampN n) : Nat) : Int) = -2 * n - 1) ∨ ((0 ≤ n ∧ n ≤ 1000000000) ∧ ((foldN (clampN n) : Nat) : Int) = 2 * n) := by
  unfold clampN
  split
  · rw [foldN_neg (by omega)]; omega
  · split
    · rw [foldN_pos (by omega)]; omega
    · by_cases h : n < 0
      · rw [foldN_neg h]; omega
      · rw [foldN_pos h]; omega
theorem encG_length : ∀ f m, (encG f m).length ≤ f + 1
  | 0, m => by simp [encG]
  | f + 1, m => by
    unfold encG
    split
    · simp
    · have := encG_length f (m / 128); simp; omega
theorem encN_length (n : Int) : (encN n).length ≤ 6 := encG_length 5 _
theorem encG_small {f m : Nat} (h : m < 128) : encG f m = [UInt8.ofNat m] := by
  cases f with
  | zero => rfl
  | succ f => unfold encG; rw [if_pos h]
theorem encG_big {f m : Nat} (h : ¬ m < 128) : encG (f + 1) m = UInt8.ofNat (m % 128 + 128) :: encG f (m / 128) := by
  rw [encG, if_neg h]
theorem enc_step {f m : Nat} (hb : ¬ m < 128) (hm : m < 128 ^ f) : ∃ g, f = g + 1 ∧ m / 128 < 128 ^ g ∧ encG f m = UInt8.ofNat (m % 128 + 128) :: encG g (m / 128) := by
  cases f with
  | zero => simp at hm; omega
  | succ g =>
    refine ⟨g, rfl, ?_, encG_big hb⟩
    rw [Nat.pow_succ] at hm
    exact Nat.div_lt_of_lt_mul (by omega)
theorem or128 (m : Nat) : bits .or .i64 ((m : Int) % 128) 128 = (m : Int) % 128 + 128 := by
  have h := i64_or_nat (m % 128) 128 (by omega) (by omega)
  have h2 : m % 128 ||| 128 = m % 128 + 128 := by
    rw [Nat.or_comm, Nat.add_comm]
    exact nat_join 7 128 (m % 128) (by decide) (by omega)
  rw [h2] at h
  have e : (((m % 128 : Nat) : Int)) = (m : Int) % 128 := by omega
  rw [e] at h
  rw [show ((m % 128 + 128 : Nat) : Int) = (m : Int) % 128 + 128 by omega] at h
  exact h
theorem vals_cont (m : Nat) : [Value.int .u8 ((m : Int) % 128 + 128)] = vals [UInt8.ofNat (m % 128 + 128)] := by
  simp [vals]; omega
theorem vals_last {m : Nat} (h : m < 128) : [Value.int .u8 (m : Int)] = vals [UInt8.ofNat m] := by
  simp [vals]; omega
theorem one_cell (v : Value) (w : World) (e : TypeId) : ∀ j u, [v][j]? = some u → (w.alloc (.cells #[v] e)).cell? ((⟨w.heap.size, 0, none⟩ : Addr).add j) = some u := by
  intro j u hj
  match j, hj with
  | 0, hj => simp at hj; subst hj; simp [Addr.add]
theorem vals_one (bs : List UInt8) : ∀ u ∈ vals bs, u.oneCell' = true := by
  intro u hu
  obtain ⟨_, _, rfl⟩ := List.mem_map.1 hu
  rfl
theorem pre_length {pre r : List UInt8} {n : Int} (h : pre ++ r = encN n) : pre.length ≤ 6 := by
  have := encN_length n; rw [← h] at this; simp at this; omega
theorem encG_pos : ∀ f m, 0 < (encG f m).length
  | 0, m => by simp [encG]
  | f + 1, m => by unfold encG; split <;> simp
theorem encN_pos (n : Int) : 0 < (encN n).length := encG_pos _ _
end Go.Proofs.YtaflokfgbmlmaacDoor
/-
  The contracts of the draws of bytes: a new cursor; some bytes drawn into a row of the call's own.
-/
namespace Go.Proofs.YtaflokfgbmlmaacDoor
open Go.RowKit
set_option linter.unusedVariables false

theorem grown_more {a b c : World} {q : Option Nat} {row : Option Nat} (h : a.grownBy b q) (k : b.grownBy c row) (hr : ∀ j, row = some j → a.heap.size ≤ j) : a.grownBy c q :=
  ⟨k.os.trans h.os, k.tape.trans h.tape, k.output.trans h.output, Nat.le_trans h.size k.size,
    fun i hi hne => (k.block i (Nat.lt_of_lt_of_le hi h.size) (fun e => by have := hr i e.symm; omega)).trans (h.block i hi hne)⟩

theorem owns_base {w : World} {base base' n size : Nat} {e : TypeId} {v : Value} {xs : List Value} (h : w.ownsRow base e size v n xs) (hb : base' ≤ base) : w.ownsRow base' e size v n xs := by
  refine ⟨h.1, ?_⟩
  rcases h.2 with h2 | ⟨g, cap, cur, h1, hb', rest⟩
  · exact .inl h2
  · exact .inr ⟨g, cap, cur, h1, by omega, rest⟩

set_option maxRecDepth 100000 in
set_option maxHeartbeats 1600000 in
theorem l1New_any (B : Nat) (a : Option Addr) (cap : Nat) (code : List UInt8) (w : World) (hr : RdB B w a code) (hn : code.length ≤ 1048576) (hB : B ≤ w.heap.size) :
    Calls Tryd.prog 45 #[.slice a code.length cap] w fun e w' => e = .returned (.pointer (some ⟨w.heap.size, 0, none⟩)) ∧ Cur B w' w.heap.size ∧ w.grownBy w' none := by
  obtain ⟨n, hN⟩ : ∃ n, n = code.length := ⟨_, rfl⟩
  rw [← hN] at hn ⊢
  have HN := hide hN
  clear hN
  go_enter Tryd.func45, Tryd.ntmps45
  go_wp2
  go_loop [3, 4] (fun h i => ∃ (k : Nat) (x : Int), k ≤ n ∧ i = .int .i64 k ∧ h = .int .i64 x) (fun _ i => n - (intOf i).toNat)
  case atStart => exact ⟨0, _, Nat.zero_le _, rfl, rfl⟩
  case round =>
    obtain ⟨k, x, hk, rfl, rfl⟩ := hrel
    by_cases hlt : k < n ∧ k < 4000
    · obtain ⟨h1, h2⟩ := hlt
      obtain ⟨b, off, hab, hbB, hcell⟩ := hr k (by rw [← HN.out]; exact h1)
      have y1 := byteAt_lo code k
      have y2 := byteAt_hi code k
      generalize byteAt code k = y at hcell y1 y2
      subst hab
      go_wp2
      go_round
      case rel => exact ⟨k + 1, _, by omega, by go_num, rfl⟩
      case measure => simp [intOf]; omega
    · by_cases h1 : k < n
      all_goals
        go_wp2
        go_ret
        refine ⟨rfl, ⟨hB, a, cap, code, 0, x, by rw [← HN.out]; exact hn, Nat.zero_le _, hr.below ((Below.refl _ _).alloc hB _), ?_⟩, World.grownBy_alloc _ _ _⟩
        rw [heap_alloc_new, ← HN.out]; rfl

theorem cells_lit (w : World) (T : TypeId) (zs : List Int) : ∀ k, k < zs.length → (w.alloc (.cells (zs.map (Value.int .i64)).toArray T)).cell? ⟨w.heap.size, k, none⟩ = some (.int .i64 (zs.getD k 0)) := by
  intro k hk
  rw [cell_of_row _ w.heap.size k _ T (0, 0) (heap_alloc_new w _)]
  simp [List.getD, hk]

end Go.Proofs.YtaflokfgbmlmaacDoor
