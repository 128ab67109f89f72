/-
  When a value is right, of its three parts at once.
-/
import Derived.Test.YtbellpalomiokabVal
import Derived.Test.YtbellpalomiokabV3
namespace Go.Proofs.Ytbellpalomiokab

def V3.ok (v : V3) : Bool := valB v.K v.N v.S
end Go.Proofs.Ytbellpalomiokab
