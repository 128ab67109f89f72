/-
  The contracts of the laws' helpers, said of rows of the calls' own.
-/
import Derived.Test.YtaflokfgbmlmaabOwnD
import Derived.Test.YtaflokfgbmlmaabMark
namespace Go.Proofs.Ytaflokfgbmlmaab
open Go.RowKit
set_option linter.unusedVariables false

theorem toByteS_own (a : Option Addr) (cap : Nat) (bs : List UInt8) (w : World) (hr : Rd w a bs) (hn : bs.length ≤ 1048576) :
    Calls Try.prog 19 #[.slice a bs.length cap] w fun e w' =>
      e = .returned (.slice (some ⟨w.heap.size, 0, none⟩) bs.length bs.length) ∧ Own w' w.heap.size bs.length bs ∧ Below w.heap.size w w' :=
  (toByteS_at a cap bs w hr hn).mono fun e w' h => ⟨h.1, owns_zero h.2.1, h.2.2⟩

theorem eqByteS_own (g g' c c' : Nat) (xs ys : List UInt8) (w : World) (h : Own w g c xs) (h' : Own w g' c' ys) (hn : xs.length ≤ 33554432) (hm : ys.length ≤ 33554432) :
    Calls Try.prog 21 #[.slice (some ⟨g, 0, none⟩) xs.length c, .slice (some ⟨g', 0, none⟩) ys.length c'] w fun e w' =>
      e = .returned (.bool (decide (xs = ys))) ∧ ∃ nd, w' = w.drewN nd :=
  eqByteS_any _ _ c c' xs ys w h.rd h'.rd hn hm

theorem markByteS_own (g cap k0 : Nat) (xs : List UInt8) (w : World) (h : Own w g cap xs) (hn : xs.length ≤ 33554500) (hk : k0 ≤ 33554500) :
    Calls Try.prog 22 #[.slice (some ⟨g, 0, none⟩) xs.length cap, .int .i64 (k0 : Int)] w fun e w' =>
      e = .returned (.int .i64 ((k0 + xs.length : Nat) : Int)) ∧ Own w' g cap (marks k0 xs.length) ∧ w.grownBy w' (some g) :=
  (markByteS_any g xs.length cap 0 k0 (vals xs) w h hn hk).mono fun e w' h2 => ⟨h2.1, by unfold Own; rw [marks_length]; exact h2.2.1, h2.2.2⟩

end Go.Proofs.Ytaflokfgbmlmaab
