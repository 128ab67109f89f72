/-
  Plainly: when a store is right.
-/
import Derived.Test.YtakodlfmnedeiabDoorJoined2
import Derived.Test.YtakodlfmnedeiabDoorJFactOk
namespace Go.Proofs.YtakodlfmnedeiabDoor
open Go.RowKit
set_option linter.unusedVariables false

def prevId (J : List It) (k : Nat) : Int := if k = 0 then 0 else (iAt J (k - 1)).id
def okAt (J : List It) (nx : Int) (k : Nat) : Prop := prevId J k < (iAt J k).id ∧ (iAt J k).id < nx ∧ factB (iAt J k).kd (iAt J k).L = true
def Dist (J : List It) : Prop := ∀ i j, i < j → j < J.length → (iAt J i).same (iAt J j).kd (iAt J j).L = false
def Right (nx : Int) (J : List It) : Prop := (1 ≤ nx ∧ nx ≤ 1000000 ∧ J.length ≤ 40) ∧ (∀ k, k < J.length → okAt J nx k) ∧ Dist J
noncomputable def storeB (nx : Int) (J : List It) : Bool := @decide (Right nx J) (Classical.propDecidable _)
theorem storeB_yes {nx : Int} {J : List It} (h : Right nx J) : storeB nx J = true := by unfold storeB; simp [h]
theorem storeB_no {nx : Int} {J : List It} (h : ¬ Right nx J) : storeB nx J = false := by unfold storeB; simp [h]
theorem storeB_iff {nx : Int} {J : List It} : storeB nx J = true ↔ Right nx J := by unfold storeB; simp
theorem right_pl {nx : Int} {J K : List It} (h : J.map It.pl = K.map It.pl) (hr : Right nx J) : Right nx K := by
  have hl := pl_len h
  have at' : ∀ i, i < K.length → (iAt J i).id = (iAt K i).id ∧ (iAt J i).kd = (iAt K i).kd ∧ (iAt J i).L = (iAt K i).L := fun i hi => pl_at h (by omega)
  refine ⟨by rw [← hl]; exact hr.1, fun k hk => ?_, fun i j hij hj => ?_⟩
  · obtain ⟨h1, h2, h3⟩ := hr.2.1 k (by omega)
    obtain ⟨e1, e2, e3⟩ := at' k hk
    have ep : prevId J k = prevId K k := by
      unfold prevId; split
      · rfl
      · exact (at' (k - 1) (by omega)).1
    exact ⟨by rw [← ep, ← e1]; exact h1, by rw [← e1]; exact h2, by rw [← e2, ← e3]; exact h3⟩
  · have := hr.2.2 i j hij (by omega)
    obtain ⟨e1, e2, e3⟩ := at' i (by omega)
    obtain ⟨f1, f2, f3⟩ := at' j hj
    unfold It.same at *
    rw [← e2, ← e3, ← f2, ← f3]; exact this
theorem storeB_pl {nx : Int} {J K : List It} (h : J.map It.pl = K.map It.pl) : storeB nx J = storeB nx K := by
  rw [Bool.eq_iff_iff, storeB_iff, storeB_iff]
  exact ⟨right_pl h, right_pl h.symm⟩
theorem same_self (x : It) : x.same x.kd x.L = true := by simp [It.same, sameF]
/-- in what is right each fact is found at its own item -/
theorem idP_own {J : List It} (hd : Dist J) {k : Nat} (hk : k < J.length) : idP (J.map It.pl) (iAt J k).kd (iAt J k).L = (iAt J k).id :=
  idP_hit hk (fun j hj => hd j k hj hk) (same_self _)
/-- the Ids ascend -/
theorem ids_up {J : List It} {nx : Int} {n : Nat} (hn : n ≤ J.length) (h : ∀ k, k < n → okAt J nx k) : (∀ k, k < n → 1 ≤ (iAt J k).id) ∧ ∀ i j, i < j → j < n → (iAt J i).id < (iAt J j).id := by
  have step : ∀ k, k + 1 < n → (iAt J k).id < (iAt J (k + 1)).id := fun k hk => by
    have := (h (k + 1) hk).1
    unfold prevId at this
    rw [if_neg (by omega)] at this
    exact this
  refine ⟨fun k => ?_, fun i j hij => ?_⟩
  · induction k with
    | zero => intro hk; have := (h 0 hk).1; unfold prevId at this; rw [if_pos rfl] at this; omega
    | succ k ih => intro hk; have := step k hk; have := ih (by omega); omega
  · induction j with
    | zero => omega
    | succ j ih =>
      intro hj
      have := step j hj
      by_cases e : i = j
      · rw [e]; exact this
      · have := ih (by omega) (by omega); omega
/-- where each fact is found at its own item no two are the same -/
theorem dist_of {J : List It} {nx : Int} (h : ∀ k, k < J.length → okAt J nx k) (hid : ∀ k, k < J.length → idP (J.map It.pl) (iAt J k).kd (iAt J k).L = (iAt J k).id) : Dist J := by
  intro i j hij hj
  cases hs : (iAt J i).same (iAt J j).kd (iAt J j).L
  · rfl
  · exfalso
    -- the first one that is the same
    have key : ∀ n, ∀ i, i ≤ n → i < j → (iAt J i).same (iAt J j).kd (iAt J j).L = true → ∃ m, m < j ∧ (iAt J m).same (iAt J j).kd (iAt J j).L = true ∧ ∀ q, q < m → (iAt J q).same (iAt J j).kd (iAt J j).L = false := by
      intro n
      induction n with
      | zero => intro i hi hij hs; exact ⟨i, hij, hs, fun q hq => by omega⟩
      | succ n ih =>
        intro i hi hij hs
        by_cases e : ∃ q, q < i ∧ (iAt J q).same (iAt J j).kd (iAt J j).L = true
        · obtain ⟨q, hq, hqs⟩ := e
          exact ih q (by omega) (by omega) hqs
        · exact ⟨i, hij, hs, fun q hq => by
            cases h : (iAt J q).same (iAt J j).kd (iAt J j).L
            · rfl
            · exact absurd ⟨q, hq, h⟩ e⟩
    obtain ⟨m, hm, hms, hmn⟩ := key i i (Nat.le_refl _) hij hs
    have e1 := idP_hit (J := J) (k := m) (by omega) hmn hms
    rw [hid j hj] at e1
    have := (ids_up (Nat.le_refl _) h).2 m j hm hj
    omega
theorem right_of {J : List It} {nx : Int} (h0 : 1 ≤ nx ∧ nx ≤ 1000000 ∧ J.length ≤ 40) (h : ∀ k, k < J.length → okAt J nx k) (hid : ∀ k, k < J.length → idP (J.map It.pl) (iAt J k).kd (iAt J k).L = (iAt J k).id) : storeB nx J = true :=
  storeB_yes ⟨h0, h, dist_of h hid⟩
theorem wrong_at {J : List It} {nx : Int} {k : Nat} (hk : k < J.length) (h : ¬ okAt J nx k) : storeB nx J = false := storeB_no (fun hr => h (hr.2.1 k hk))
theorem wrong_id {J : List It} {nx : Int} {k : Nat} (hk : k < J.length) (h : idP (J.map It.pl) (iAt J k).kd (iAt J k).L ≠ (iAt J k).id) : storeB nx J = false := storeB_no (fun hr => h (idP_own hr.2.2 hk))
end Go.Proofs.YtakodlfmnedeiabDoor
