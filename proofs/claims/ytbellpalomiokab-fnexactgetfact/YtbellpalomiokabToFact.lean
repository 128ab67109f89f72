/-
  The contracts of the laws' own helpers on facts: toFact copies, eqFact finds a fact the same as itself.
-/
import Derived.Test.YtbellpalomiokabBox2
import Derived.Test.YtbellpalomiokabLawFact
namespace Go.Proofs.Ytbellpalomiokab
open Go.RowKit
set_option linter.unusedVariables false

set_option maxRecDepth 100000 in
set_option maxHeartbeats 1600000 in
theorem eqFact_same (kd : ByteArray) (a b : Option Addr) (ca cb : Nat) (L : List V3) (w : World) (hr : RdV w a L) (hq : RdV w b L) (hn : L.length ≤ 1048580) :
    Calls Try.prog 9 #[.agg #[.string kd, .slice a L.length ca], .agg #[.string kd, .slice b L.length cb]] w fun e w' =>
      e = .returned (.bool true) ∧ Below w.heap.size w w' := by
  have k1 : (kd.toList == kd.toList) = true := by simp
  go_enter Try.func9, Try.ntmps9
  go_wp2_with fail
  have b0 := below_al w (.cells #[.string kd, .slice a L.length ca] 25)
  have b1 := b0.alloc b0.size (.cells #[.string kd, .slice b L.length cb] 25)
  refine (eqValS_same a b ca cb L _ (hr.below b1) (hq.below b1) hn).mono ?_
  rintro e w1 ⟨rfl, hb⟩
  have hB : Below w.heap.size w w1 := b1.trans (hb.mono b1.size)
  go_wp2
  go_ret
  exact ⟨rfl, hB⟩
end Go.Proofs.Ytbellpalomiokab
