/-
  The sum of bytes, plainly. No program is spoken of here.
-/
import Derived.Test.YtoppajcjpbdgjaaBytes
import Derived.Test.YtoppajcjpbdgjaaBits
namespace Go.Proofs.Ytoppajcjpbdgjaa
open Go.RowKit
set_option linter.unusedVariables false

def crcTo (bs : List UInt8) : Nat → Nat
  | 0 => 4294967295
  | k + 1 => cbyte (crcTo bs k) (byteAt bs k).toNat
theorem crcTo_lt (bs : List UInt8) : ∀ k, crcTo bs k < 4294967296
  | 0 => by show 4294967295 < 4294967296; decide
  | k + 1 => cbyte_lt (crcTo_lt bs k) (by have := byteAt_lo bs k; have := byteAt_hi bs k; omega)
def crcN (bs : List UInt8) : Nat := crcTo bs bs.length ^^^ 4294967295

end Go.Proofs.Ytoppajcjpbdgjaa
