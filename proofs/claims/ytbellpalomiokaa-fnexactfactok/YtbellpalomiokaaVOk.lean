/-
  When a value is right, of its three parts at once.
-/
import Derived.Test.YtbellpalomiokaaVal
import Derived.Test.YtbellpalomiokaaV3
namespace Go.Proofs.Ytbellpalomiokaa

def V3.ok (v : V3) : Bool := valB v.K v.N v.S
end Go.Proofs.Ytbellpalomiokaa
