/-
  Plainly: the Id of the first item with a fact.
-/
import Derived.Test.YtjiopefdfkjfkaaDoorItemRow
import Derived.Test.YtjiopefdfkjfkaaDoorFactL
namespace Go.Proofs.YtjiopefdfkjfkaaDoor
open Go.RowKit
set_option linter.unusedVariables false

def It.same (x : It) (kd : ByteArray) (M : List V3) : Bool := sameF x.kd x.L kd M
/-- the Id of the first item with this fact -/
def idP : List P4 → ByteArray → List V3 → Int
  | [], _, _ => 0
  | p :: r, kd, M => if sameF p.kd p.L kd M then p.id else idP r kd M
theorem idP_hit {kd : ByteArray} {M : List V3} : ∀ {J : List It} {k : Nat}, k < J.length → (∀ j, j < k → (iAt J j).same kd M = false) → (iAt J k).same kd M = true → idP (J.map It.pl) kd M = (iAt J k).id
  | [], k, h, _, _ => absurd h (Nat.not_lt_zero _)
  | x :: r, 0, h, _, hs => by
    have e : iAt (x :: r) 0 = x := rfl
    rw [e] at hs ⊢
    show (if sameF x.kd x.L kd M then _ else _) = _
    rw [show sameF x.kd x.L kd M = true from hs]; rfl
  | x :: r, k + 1, h, hn, hs => by
    have e : ∀ j, iAt (x :: r) (j + 1) = iAt r j := fun j => by simp [iAt, List.getD]
    have h0 := hn 0 (by omega)
    have e0 : iAt (x :: r) 0 = x := rfl
    rw [e0] at h0
    show (if sameF x.kd x.L kd M then _ else idP (r.map It.pl) kd M) = _
    rw [show sameF x.kd x.L kd M = false from h0, if_neg (by simp), e]
    rw [e] at hs
    exact idP_hit (by simpa using h) (fun j hj => by have := hn (j + 1) (by omega); rw [e] at this; exact this) hs
theorem idP_none {kd : ByteArray} {M : List V3} : ∀ {J : List It}, (∀ j, j < J.length → (iAt J j).same kd M = false) → idP (J.map It.pl) kd M = 0
  | [], _ => rfl
  | x :: r, hn => by
    have e : ∀ j, iAt (x :: r) (j + 1) = iAt r j := fun j => by simp [iAt, List.getD]
    have h0 := hn 0 (by simp)
    have e0 : iAt (x :: r) 0 = x := rfl
    rw [e0] at h0
    show (if sameF x.kd x.L kd M then _ else idP (r.map It.pl) kd M) = _
    rw [show sameF x.kd x.L kd M = false from h0, if_neg (by simp)]
    exact idP_none (fun j hj => by have := hn (j + 1) (by simpa using hj); rw [e] at this; exact this)
end Go.Proofs.YtjiopefdfkjfkaaDoor
