/-
  When a value is right, of its three parts at once.
-/
import Derived.Test.YtbellpalomiokacDoorVal
import Derived.Test.YtbellpalomiokacDoorV3
namespace Go.Proofs.YtbellpalomiokacDoor

def V3.ok (v : V3) : Bool := valB v.K v.N v.S
end Go.Proofs.YtbellpalomiokacDoor
