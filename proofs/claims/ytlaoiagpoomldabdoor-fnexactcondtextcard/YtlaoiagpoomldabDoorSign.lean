/-
  What signOf answers: a sign's text and its function, or none.
-/
import Derived.Test.YtlaoiagpoomldabDoorPlain
import Derived.Handy
import Derived.Laws.EntriesVeiled
namespace Go.Proofs.YtlaoiagpoomldabDoor
open Go.RowKit
set_option linter.unusedVariables false

/-- a sign's text -/
def signT (Op : Int) : ByteArray := if Op = 1 then ⟨#[61]⟩ else if Op = 2 then ⟨#[35]⟩ else if Op = 3 then ⟨#[60]⟩ else ⟨#[]⟩
/-- a sign's function -/
def signF (Op : Int) : Value := if Op = 1 then .func (.func 92) #[] #[] else if Op = 2 then .func (.func 93) #[] #[] else if Op = 3 then .func (.func 94) #[] #[] else .nilFunc

theorem signF_no {Op : Int} (h : inB Op 1 3 = false) : signF Op = .nilFunc := by
  simp only [inB, Bool.and_eq_false_iff, decide_eq_false_iff_not] at h
  unfold signF
  rw [if_neg (by omega), if_neg (by omega), if_neg (by omega)]
theorem signF_yes {Op : Int} (h : inB Op 1 3 = true) : ∃ n, signF Op = .func (.func n) #[] #[] := by
  simp only [inB, Bool.and_eq_true, decide_eq_true_eq] at h
  unfold signF
  by_cases h1 : Op = 1
  · exact ⟨_, if_pos h1⟩
  · by_cases h2 : Op = 2
    · exact ⟨_, by rw [if_neg h1, if_pos h2]⟩
    · exact ⟨_, by rw [if_neg h1, if_neg h2, if_pos (by omega)]⟩

set_option maxRecDepth 100000 in
set_option maxHeartbeats 800000 in
theorem signOf_any (Op : Int) (w : World) :
    Calls Tryd.prog 45 #[.int .i64 Op] w fun e w' => e = .returned (.tuple #[.agg #[.string (signT Op), signF Op], .bool (inB Op 1 3)]) ∧ Below w.heap.size w w' := by
  by_cases h1 : Op = 1
  · subst h1
    rw [show signT 1 = ⟨#[61]⟩ from rfl, show signF 1 = .func (.func 92) #[] #[] from rfl, show inB 1 1 3 = true from rfl]
    go_enter Tryd.func45, Tryd.ntmps45
    go_wp2
    go_returns
    exact ⟨rfl, by go_grown⟩
  · by_cases h2 : Op = 2
    · subst h2
      rw [show signT 2 = ⟨#[35]⟩ from rfl, show signF 2 = .func (.func 93) #[] #[] from rfl, show inB 2 1 3 = true from rfl]
      clear h1
      go_enter Tryd.func45, Tryd.ntmps45
      go_wp2
      go_returns
      exact ⟨rfl, by go_grown⟩
    · by_cases h3 : Op = 3
      · subst h3
        rw [show signT 3 = ⟨#[60]⟩ from rfl, show signF 3 = .func (.func 94) #[] #[] from rfl, show inB 3 1 3 = true from rfl]
        clear h1 h2
        go_enter Tryd.func45, Tryd.ntmps45
        go_wp2
        go_returns
        exact ⟨rfl, by go_grown⟩
      · rw [show signT Op = ⟨#[]⟩ by simp [signT, h1, h2, h3], show signF Op = .nilFunc by simp [signF, h1, h2, h3]]
        have hb : inB Op 1 3 = false := by simp [inB]; omega
        rw [hb]
        clear hb
        by_cases h4 : Op < 1
        · clear h1 h2 h3
          go_enter Tryd.func45, Tryd.ntmps45
          go_wp2
          go_returns
          exact ⟨rfl, by go_grown⟩
        · have h5 : 3 < Op := by omega
          clear h1 h2 h3
          go_enter Tryd.func45, Tryd.ntmps45
          go_wp2
          go_returns
          exact ⟨rfl, by go_grown⟩
end Go.Proofs.YtlaoiagpoomldabDoor
