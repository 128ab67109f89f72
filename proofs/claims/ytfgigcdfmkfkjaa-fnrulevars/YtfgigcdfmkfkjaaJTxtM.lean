/-
  The laws' hasText and sameTexts; what of a rule's patterns is among its variables and its kinds, plainly.
-/
import Derived.Test.YtfgigcdfmkfkjaaJoined3
import Derived.Deep.QuietTactic
import Derived.BigQuiet
namespace Go.Proofs.Ytfgigcdfmkfkjaa
open Go.RowKit
set_option linter.unusedVariables false
set_option maxRecDepth 100000

set_option maxHeartbeats 1600000 in
theorem hasText_m (a : Option Addr) (n cap : Nat) (L : List ByteArray) (s : ByteArray) (w : World) (hz : L.length = n) (hr : RdS w a L) (hn : n ≤ 1048580) :
    Calls Try.prog 42 #[.slice a n cap, .string s] w fun e w' => e = .returned (.bool (hasS L s)) ∧ w' = w := by
  have HZ := hide hz
  clear hz
  go_enter Try.func42, Try.ntmps42
  go_wp2
  go_loop [5] (fun i => ∃ (k : Nat), k ≤ n ∧ i = .int .i64 k ∧ ∀ j, j < k → sAt L j ≠ s) (fun i => n - (intOf i).toNat)
  case atStart => exact ⟨0, Nat.zero_le _, rfl, fun j hj => absurd hj (Nat.not_lt_zero _)⟩
  case round =>
    obtain ⟨k, hk, rfl, hall⟩ := hrel
    have HA := hide hall
    clear hall
    by_cases hlt : k < n
    · obtain ⟨b, off, hab, hbw, hc⟩ := hr.open (by rw [HZ.out]; omega)
      have c0 := hc k (by rw [HZ.out]; exact hlt)
      clear hc
      subst hab
      by_cases he : sAt L k = s
      · have HV := hide (hasS_yes (by rw [HZ.out]; exact hlt) he)
        rw [he] at c0
        have k1 : (s.toList == s.toList) = true := by simp
        clear he
        go_wp2
        go_ret
        exact ⟨ret_bool HV.out.symm, rfl⟩
      · have k1 := beq_neS he
        have HE := hide he
        clear he
        go_wp2
        go_round
        case rel => exact ⟨k + 1, by omega, by go_num, fun j hj => by
            by_cases hjk : j = k
            · rw [hjk]; exact HE.out
            · exact HA.out j (by omega)⟩
        case measure => simp [intOf]; omega
    · have HV := hide (hasS_no (fun j hj => HA.out j (by rw [HZ.out] at hj; omega)))
      go_wp2
      go_ret
      exact ⟨ret_bool HV.out.symm, rfl⟩

set_option maxHeartbeats 1600000 in
theorem sameTexts_m (a b : Option Addr) (n ca cb : Nat) (L : List ByteArray) (w : World) (hz : L.length = n) (hr : RdS w a L) (hq : RdS w b L) (hn : n ≤ 1048580) :
    Calls Try.prog 43 #[.slice a n ca, .slice b n cb] w fun e w' => e = .returned (.bool true) ∧ Below w.heap.size w w' := by
  have HZ := hide hz
  clear hz
  have hnn : ((n : Int) != (n : Int)) = false := by simp
  go_enter Try.func43, Try.ntmps43
  go_wp2
  go_loopw [5] (fun i wr => ∃ (k nd : Nat), k ≤ n ∧ i = .int .i64 k ∧ wr = w.drewN nd) (fun i _ => n - (intOf i).toNat)
  case atStart => exact ⟨0, 0, Nat.zero_le _, rfl, rfl⟩
  case round =>
    obtain ⟨k, nd, hk, rfl, rfl⟩ := hrel
    by_cases hlt : k < n
    · obtain ⟨b1, o1, e1, -, hc1⟩ := hr.open (by rw [HZ.out]; omega)
      obtain ⟨b2, o2, e2, -, hc2⟩ := hq.open (by rw [HZ.out]; omega)
      have c0 := hc1 k (by rw [HZ.out]; exact hlt)
      have d0 := hc2 k (by rw [HZ.out]; exact hlt)
      have l1 : (k : Int) < (n : Int) := by omega
      clear hc1 hc2
      subst e1 e2
      generalize sAt L k = z at c0 d0
      have k1 : (z.toList == z.toList) = true := by simp
      go_wp2
      go_quiet (fail)
      go_wp2
      go_roundw
      case rel => exact ⟨k + 1, _, by omega, by go_num, rfl⟩
      case measure => simp [intOf]; omega
    · go_wp2
      go_ret
      exact ⟨rfl, show Below w.heap.size w (w.drewN nd) from ⟨rfl, rfl, rfl, Nat.le_refl _, fun _ _ => rfl⟩⟩

/-- none is there twice -/
def OnceS (l : List ByteArray) : Prop := ∀ i, i < l.length → hasS (l.take i) (sAt l i) = false
theorem OnceS.add {l : List ByteArray} (h : OnceS l) (s : ByteArray) : OnceS (addS l s) := by
  by_cases hs : hasS l s = true
  · rw [addS_yes hs]; exact h
  · have hf : hasS l s = false := by simpa using hs
    rw [addS_no hf]
    intro i hi
    rw [List.length_append] at hi
    by_cases hil : i < l.length
    · have e1 : sAt (l ++ [s]) i = sAt l i := by rw [sAt_in (by rw [List.length_append]; omega), sAt_in hil, List.getElem_append_left hil]
      rw [e1, List.take_append_of_le_length (by omega)]; exact h i hil
    · have e0 : i = l.length := by simp at hi; omega
      have e1 : sAt (l ++ [s]) i = s := by rw [sAt_in (by rw [List.length_append]; exact hi)]; subst e0; simp
      have e2 : (l ++ [s]).take i = l := by subst e0; simp
      rw [e1, e2]; exact hf
theorem OnceS.adds : ∀ (s : List ByteArray) {l : List ByteArray}, OnceS l → OnceS (adds l s)
  | [], _, h => h
  | x :: r, l, h => OnceS.adds r (h.add x)
theorem varsB_once : ∀ (J : List PE) {l : List ByteArray}, OnceS l → OnceS (varsB l J)
  | [], _, h => h
  | p :: r, l, h => by
    have e : varsB l (p :: r) = varsB (varsF l p.L) r := rfl
    rw [e, varsF_names]
    exact varsB_once r (OnceS.adds _ h)
theorem varsB_has {J : List PE} {p : PE} (hp : p ∈ J) (hn : p.nt = false) {s : ByteArray} (hs : s ∈ varsL p.L) : hasS (varsB [] (posB J)) s = true := by
  refine hasS_mem.2 ((varsB_mem _ _).2 (.inr ⟨p, by unfold posB; exact List.mem_filter.2 ⟨hp, by rw [hn]; rfl⟩, ?_⟩))
  obtain ⟨x, hx, h1, h2⟩ := (varsL_ok p.L).1 s hs
  exact ⟨x, hx, h1, h2⟩
theorem kindsL_mem {s : ByteArray} : ∀ (J : List PE) (l : List ByteArray), s ∈ kindsL l J ↔ s ∈ l ∨ ∃ p ∈ J, p.kd = s
  | [], l => by simp [kindsL]
  | p :: r, l => by
    have e : kindsL l (p :: r) = kindsL (addS l p.kd) r := rfl
    rw [e, kindsL_mem r, addS_mem_iff, or_assoc]
    simp only [List.mem_cons, exists_eq_or_imp]
    constructor
    · rintro (h | h | h)
      · exact .inl h
      · exact .inr (.inl h.symm)
      · exact .inr (.inr h)
    · rintro (h | h | h)
      · exact .inl h
      · exact .inr (.inl h.symm)
      · exact .inr (.inr h)
theorem kindsL_has {J : List PE} {p : PE} (hp : p ∈ J) : hasS (kindsL [] J) p.kd = true := hasS_mem.2 ((kindsL_mem _ _).2 (.inr ⟨p, hp, rfl⟩))
end Go.Proofs.Ytfgigcdfmkfkjaa
