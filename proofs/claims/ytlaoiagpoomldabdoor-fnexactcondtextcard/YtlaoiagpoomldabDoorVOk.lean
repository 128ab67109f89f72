/-
  When a value is right, of its three parts at once.
-/
import Derived.Test.YtlaoiagpoomldabDoorVal
import Derived.Test.YtlaoiagpoomldabDoorV3
namespace Go.Proofs.YtlaoiagpoomldabDoor

def V3.ok (v : V3) : Bool := valB v.K v.N v.S
end Go.Proofs.YtlaoiagpoomldabDoor
