/-
  When a value is right, of its three parts at once.
-/
import Derived.Test.YtaflokfgbmlmaacDoorVal
import Derived.Test.YtaflokfgbmlmaacDoorV3
namespace Go.Proofs.YtaflokfgbmlmaacDoor

def V3.ok (v : V3) : Bool := valB v.K v.N v.S
end Go.Proofs.YtaflokfgbmlmaacDoor
