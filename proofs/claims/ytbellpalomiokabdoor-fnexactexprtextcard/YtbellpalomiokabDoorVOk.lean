/-
  When a value is right, of its three parts at once.
-/
import Derived.Test.YtbellpalomiokabDoorVal
import Derived.Test.YtbellpalomiokabDoorV3
namespace Go.Proofs.YtbellpalomiokabDoor

def V3.ok (v : V3) : Bool := valB v.K v.N v.S
end Go.Proofs.YtbellpalomiokabDoor
