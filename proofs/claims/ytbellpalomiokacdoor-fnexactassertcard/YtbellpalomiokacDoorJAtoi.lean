/-
  What strconv.Atoi answers: the number, or an error.
-/
import Derived.Test.YtbellpalomiokacDoorJValP
import Derived.Test.YtbellpalomiokacDoorShelf
import Derived.Test.YtbellpalomiokacDoorJoined1
import Derived.Lib.SmallJoins
import Derived.ProofKit
import Derived.Below
namespace Go.Proofs.YtbellpalomiokacDoor
open Go.RowKit Go.Lib
set_option linter.unusedVariables false

/-- the library's two errors are there -/
def Errs (w : World) : Prop := (∃ tp p, w.var? Tryd.prog "strconv.ErrSyntax" = some #[.iface tp p]) ∧ (∃ tp p, w.var? Tryd.prog "strconv.ErrRange" = some #[.iface tp p])
/-- (at a program that has strconv.Atoi, its function 161) -/
theorem gSyn : ∃ g, Tryd.prog.globalNamed "strconv.ErrSyntax" = some g := Option.isSome_iff_exists.1 (by kernel_rfl)
/-- (at a program that has strconv.Atoi, its function 161) -/
theorem gRan : ∃ g, Tryd.prog.globalNamed "strconv.ErrRange" = some g := Option.isSome_iff_exists.1 (by kernel_rfl)
/-- (at a program that has strconv.Atoi, its function 161) -/
theorem Errs.later {w w' : World} {B : Nat} (h : Errs w) (hb : Below B w w') (hB : w.heap.size ≤ B) : Errs w' := by
  obtain ⟨⟨t1, p1, h1⟩, ⟨t2, p2, h2⟩⟩ := h
  obtain ⟨g, hg⟩ := gSyn
  obtain ⟨g', hg'⟩ := gRan
  exact ⟨⟨t1, p1, Joins.var_stays hg h1 hb hB⟩, ⟨t2, p2, Joins.var_stays hg' h2 hb hB⟩⟩

/-- what strconv.Atoi answers where it reads no number: an error, whatever stands beside it -/
theorem atoi_no (s : ByteArray) (w : World) (hs : s.size ≤ 1048576) (he : Errs w) (h : ∀ n, atoiAll s.data.toList ≠ .ok n) :
    Calls Tryd.prog 161 #[.string s] w fun e w' => ∃ (z : Int) (t : TypeId) (N : Nat), e = .returned (.tuple #[.int .i64 z, .iface t (.pointer (some ⟨N, 0, none⟩))]) ∧ Below w.heap.size w w' := by
  obtain ⟨⟨t1, p1, h1⟩, ⟨t2, p2, h2⟩⟩ := he
  cases hx : atoiAll s.data.toList with
  | ok n => exact absurd hx (h n)
  | «syntax» =>
    refine (Tryd.strconv_Atoi_syntax_var s (by omega) hx t1 p1 w h1).mono ?_
    rintro e w' ⟨N, rfl, _, _, hb⟩
    exact ⟨_, _, N, rfl, hb⟩
  | range =>
    refine (Tryd.strconv_Atoi_range_var s (by omega) hx t2 p2 w h2).mono ?_
    rintro e w' ⟨N, rfl, _, _, hb⟩
    exact ⟨_, _, N, rfl, hb⟩
theorem atoi_yes (s : ByteArray) (w : World) (n : Int) (hs : s.size ≤ 1048576) (h : atoiAll s.data.toList = .ok n) :
    Calls Tryd.prog 161 #[.string s] w fun e w' => e = .returned (.tuple #[.int .i64 n, .nilIface]) ∧ Below w.heap.size w w' := by
  refine (Tryd.strconv_Atoi_ok s (by omega) n h w).mono ?_
  rintro e w' ⟨rfl, rfl | ⟨t, rfl⟩⟩
  · exact ⟨rfl, Below.refl _ _⟩
  · exact ⟨rfl, Joins.below_bytesWorld _ _ _ _ (Nat.le_refl _)⟩
end Go.Proofs.YtbellpalomiokacDoor
