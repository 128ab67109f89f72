/-
  When a value is right, of its three parts at once.
-/
import Derived.Test.YtaflokfgbmlmaabVal
import Derived.Test.YtaflokfgbmlmaabV3
namespace Go.Proofs.Ytaflokfgbmlmaab

def V3.ok (v : V3) : Bool := valB v.K v.N v.S
end Go.Proofs.Ytaflokfgbmlmaab
