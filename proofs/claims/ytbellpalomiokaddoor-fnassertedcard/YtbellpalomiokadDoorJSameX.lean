/-
  The contract of fixed, its cells written out.
-/
import Derived.Test.YtbellpalomiokadDoorJoined2
import Derived.Deep.RegionWith
namespace Go.Proofs.YtbellpalomiokadDoor
open Go.RowKit
set_option linter.unusedVariables false

theorem fixed_exp (kd : ByteArray) (a : Option Addr) (cap : Nat) (L : List V3) (v0 v1 v2 v3 v4 : V3) (w : World) (hr : RdV w a L) (hn : L.length ≤ 1048580) (hp : pad5 L = [v0, v1, v2, v3, v4]) :
    Calls Tryd.prog 29 #[.agg #[.string kd, .slice a L.length cap]] w fun e w' =>
      e = .returned (.agg #[.string kd, .int .i64 v0.K, .int .i64 v0.N, .string v0.S, .int .i64 v1.K, .int .i64 v1.N, .string v1.S, .int .i64 v2.K, .int .i64 v2.N, .string v2.S, .int .i64 v3.K, .int .i64 v3.N, .string v3.S, .int .i64 v4.K, .int .i64 v4.N, .string v4.S]) ∧ Below w.heap.size w w' := fixed_any kd a cap L v0 v1 v2 v3 v4 w hr hn hp
end Go.Proofs.YtbellpalomiokadDoor
