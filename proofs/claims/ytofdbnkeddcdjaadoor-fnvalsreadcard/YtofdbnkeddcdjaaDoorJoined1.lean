/-
  Texts of this claim joined into one: Plain, Bytes, Bits, Num, Enc, TextR, Dec, Word, AllB, Text, ValE, Val, ValR, EncT, EncV, Canon, Draw, DrawB, Box, DrawV, V3, ValP, Whole, L2Num, TabT, ValT, ParseP, Atoi, Loose, ParseI.
-/
import Derived.Test.YtofdbnkeddcdjaaDoorRows
import Derived.WalkKit
import Derived.WalkSpells
import Derived.WalkLawsBesides
import Derived.OpenShut
import Derived.BigQuiet
import Derived.Deep.QuietTactic
import Derived.Laws.BitsAllLaws
import Derived.Laws.IdiomStrings
import Derived.Deep.RegionWith
import Derived.Handy
import Derived.Laws.StructEq
import Derived.Lib.AppendStr
import Derived.Lib.ItoaLen
import Derived.Lib.AtoiTie
import Derived.Lib.AppendIntMem
import Derived.Lib.SmallJoins
import Derived.Test.YtofdbnkeddcdjaaDoorShelf
import Derived.ProofKit
import Derived.Below
import Derived.Lib.SlicesS
/-
  Small plain facts that the walks of this seat share: a fact kept from the walk, equal endings, a number between two bounds.
-/
namespace Go.Proofs.YtofdbnkeddcdjaaDoor
open Go.RowKit
set_option linter.unusedVariables false

theorem hide {p : Prop} (h : p) : Hid p := h
theorem ret_bool {a b : Bool} (h : a = b) : Ending.returned (.bool a) = .returned (.bool b) := by rw [h]
theorem ret_int {k : IntKind} {a b : Int} (h : a = b) : Ending.returned (.int k a) = .returned (.int k b) := by rw [h]

def inB (x a b : Int) : Bool := decide (a ≤ x) && decide (x ≤ b)
theorem inB_t {x a b : Int} (h : a ≤ x ∧ x ≤ b) : inB x a b = true := by simp [inB, h.1, h.2]
theorem inB_f {x a b : Int} (h : ¬ (a ≤ x ∧ x ≤ b)) : inB x a b = false := by
  simp [inB]; omega
end Go.Proofs.YtofdbnkeddcdjaaDoor
/-
  Rows of bytes: what a slice of bytes reads as (Rd), what a call's own row holds (vals), and the contracts of the laws' own helpers on them: toByteS copies, eqByteS tells whether two are the same.
-/
namespace Go.Proofs.YtofdbnkeddcdjaaDoor
open Go.RowKit
set_option linter.unusedVariables false

theorem Tryd.info5 : (Tryd.prog.info? 5).map (fun i => (i.zero, i.size, i.bytes)) = some (some (.int .u8 0), 1, 1) := by kernel_rfl

/-- the i-th byte as a number -/
def byteAt (bs : List UInt8) (i : Nat) : Int := ((bs.getD i 0).toNat : Int)
theorem byteAt_lo (bs : List UInt8) (i : Nat) : 0 ≤ byteAt bs i := by unfold byteAt; omega
theorem byteAt_hi (bs : List UInt8) (i : Nat) : byteAt bs i ≤ 255 := by
  unfold byteAt; have := (bs.getD i 0).toNat_lt; omega

def vals (bs : List UInt8) : List Value := bs.map (fun b => Value.int .u8 (b.toNat : Int))
theorem vals_length (bs : List UInt8) : (vals bs).length = bs.length := by simp [vals]
theorem vals_get {bs : List UInt8} {i : Nat} (h : i < bs.length) : (vals bs)[i]? = some (.int .u8 (byteAt bs i)) := by
  unfold vals byteAt
  rw [List.getElem?_map, List.getElem?_eq_getElem h]
  simp [List.getD, h]
theorem vals_append (a b : List UInt8) : vals (a ++ b) = vals a ++ vals b := by simp [vals]

/-- what the slice at 'a' reads as -/
def Rd (w : World) (a : Option Addr) (bs : List UInt8) : Prop :=
  ∀ i, i < bs.length → ∃ b off, a = some ⟨b, off, none⟩ ∧ w.cell? ⟨b, off + i, none⟩ = some (.int .u8 (byteAt bs i))

theorem Rd.open {w : World} {a : Option Addr} {bs : List UInt8} (h : Rd w a bs) (hp : 0 < bs.length) :
    ∃ b off, a = some ⟨b, off, none⟩ ∧ b < w.heap.size ∧ ∀ i, i < bs.length → w.cell? ⟨b, off + i, none⟩ = some (.int .u8 (byteAt bs i)) := by
  obtain ⟨b, off, rfl, h0⟩ := h 0 hp
  refine ⟨b, off, rfl, World.block_lt_of_cell? w _ h0, fun i hi => ?_⟩
  obtain ⟨b2, off2, e, h1⟩ := h i hi
  simp only [Option.some.injEq, Addr.mk.injEq] at e
  rw [e.1, e.2.1]; exact h1

theorem Rd.below {w w' : World} {a : Option Addr} {bs : List UInt8} (h : Rd w a bs) (hb : Below w.heap.size w w') : Rd w' a bs := by
  intro i hi
  obtain ⟨b, off, e, hc⟩ := h i hi
  exact ⟨b, off, e, by rw [hb.cell (p := ⟨b, off + i, none⟩) (World.block_lt_of_cell? w _ hc)]; exact hc⟩

theorem Rd.heap {w w' : World} {a : Option Addr} {bs : List UInt8} (h : Rd w a bs) (hb : w'.heap = w.heap) : Rd w' a bs := by
  intro i hi
  obtain ⟨b, off, e, hc⟩ := h i hi
  exact ⟨b, off, e, by rw [← hc]; simp [World.cell?, hb]⟩

/-- what a call's own row of bytes reads as -/
theorem rd_owns {w : World} {base n : Nat} {v : Value} {bs : List UInt8} (h : w.ownsRow base 5 1 v n (vals bs)) :
    ∃ a cap, v = .slice a bs.length cap ∧ Rd w a bs ∧ n = bs.length := by
  have hn : n = bs.length := by have := h.1; rw [vals_length] at this; omega
  subst hn
  rcases h.2 with ⟨rfl, h0⟩ | ⟨g, cap, cur, rfl, hb, hg, hnc, hcm, hsz, htake⟩
  · exact ⟨none, 0, by rw [h0], fun i hi => by omega, rfl⟩
  · refine ⟨_, cap, rfl, fun i hi => ⟨g, 0, rfl, ?_⟩, rfl⟩
    have := h.cellAt i (by omega)
    rw [vals_get hi] at this
    rw [← this]; simp

/-- the row of bytes that came in -/
def IsRow (k : IntKind) (w : World) (a : Option Addr) (len cap : Nat) (zs : List Int) : Prop :=
  (a = none ∧ len = 0 ∧ cap = 0 ∧ zs = []) ∨
  ∃ x, a = some x ∧ len ≤ cap ∧ cap ≤ maxLen ∧ zs.length = cap ∧ (∀ i, i < zs.length → w.cell? (x.add i) = some (.int k (zs.getD i 0))) ∧ ∀ n ∈ zs, (Lit.int k n).wf = true

theorem isRow_len {k : IntKind} {w : World} {a : Option Addr} {len cap : Nat} {zs : List Int} (h : IsRow k w a len cap zs) : len ≤ maxLen := by
  rcases h with ⟨rfl, rfl, rfl, rfl⟩ | ⟨x, rfl, hl, hm, hz, hcell, hwz⟩
  · exact Nat.zero_le _
  · exact Nat.le_trans hl hm
theorem below_drewN (B : Nat) (w : World) (n : Nat) : Below B w (w.drewN n) := ⟨rfl, rfl, rfl, Nat.le_refl _, fun _ _ => rfl⟩

theorem rd_row {w : World} {a : Option Addr} {len cap : Nat} {zs : List Int} (h : IsRow .u8 w a len cap zs) :
    ∃ bs : List UInt8, bs.length = len ∧ Rd w a bs := by
  rcases h with ⟨rfl, rfl, rfl, rfl⟩ | ⟨x, rfl, hl, hm, hz, hcell, hwz⟩
  · exact ⟨[], rfl, fun i hi => by simp at hi⟩
  · refine ⟨(zs.take len).map (fun n => UInt8.ofNat n.toNat), by simp; omega, fun i hi => ?_⟩
    have hi2 : i < len := by simp at hi; omega
    obtain ⟨b, off, spot⟩ := x
    have hc := hcell i (by omega)
    have hs : spot = none := by
      have h0 := hcell 0 (by omega)
      simpa [Addr.add] using World.cell?_spot h0
    subst hs
    refine ⟨b, off, rfl, ?_⟩
    have e : (⟨b, off, none⟩ : Addr).add i = ⟨b, off + i, none⟩ := Addr.add_lit _ _ _
    rw [e] at hc
    rw [hc]
    have hiz : i < zs.length := by omega
    have hw := hwz zs[i] (List.getElem_mem hiz)
    have hb := bounds_u8 hw
    unfold byteAt
    simp [List.getD, hiz, hi2]
    omega

theorem rd_cells {w : World} {p : Addr} {bs : List UInt8} (hr : Rd w (some p) bs) : ∀ j u, (vals bs)[j]? = some u → w.cell? (p.add j) = some u := by
  intro j u hj
  have hl : j < bs.length := by have := (List.getElem?_eq_some_iff.1 hj).1; rw [vals_length] at this; exact this
  rw [vals_get hl] at hj
  obtain ⟨b, off, e, hc⟩ := hr j hl
  simp only [Option.some.injEq] at e
  subst e
  rw [Addr.add_lit, hc]; exact hj

/-- a row of the call's own, at hand for the readers -/
theorem rd_owns_cap {w : World} {base n : Nat} {v : Value} {bs : List UInt8} (h : w.ownsRow base 5 1 v n (vals bs)) :
    ∃ a cap, v = .slice a bs.length cap ∧ Rd w a bs ∧ bs.length ≤ cap ∧ (a = none → bs.length = 0 ∧ cap = 0) := by
  have hn : n = bs.length := by have := h.1; rw [vals_length] at this; omega
  subst hn
  obtain ⟨a, cap, e, hr, -⟩ := rd_owns h
  rcases h.2 with ⟨h1, h0⟩ | ⟨g, cap', cur, h1, hb, hg, hnc, hcm, hsz, htake⟩
  · rw [e] at h1
    simp only [Value.slice.injEq] at h1
    exact ⟨a, cap, e, hr, by omega, fun _ => ⟨h0, h1.2.2⟩⟩
  · rw [e] at h1
    simp only [Value.slice.injEq] at h1
    exact ⟨a, cap, e, hr, by omega, fun hh => by rw [h1.1] at hh; cases hh⟩

end Go.Proofs.YtofdbnkeddcdjaaDoor
/-
  Plain facts on bits of an int that is not below 0.
-/
namespace Go.Proofs.YtofdbnkeddcdjaaDoor
open Go.RowKit
set_option linter.unusedVariables false

theorem i64_xor_nat (a b : Nat) (ha : a < 9223372036854775808) (hb : b < 9223372036854775808) : bits .xor .i64 (a : Int) (b : Int) = ((a ^^^ b : Nat) : Int) := by
  have hx : a ^^^ b < 2 ^ 63 := Nat.xor_lt_two_pow (by omega) (by omega)
  show IntKind.i64.wrap ((BitVec.ofInt 64 (a : Int) ^^^ BitVec.ofInt 64 (b : Int)).toNat : Int) = _
  rw [BitVec.toNat_xor, ofInt_u64 a (by omega), ofInt_u64 b (by omega)]
  exact IntWalk.i64_in _ (by omega)
theorem i64_and_nat (a b : Nat) (ha : a < 9223372036854775808) (hb : b < 9223372036854775808) : bits .and .i64 (a : Int) (b : Int) = ((a &&& b : Nat) : Int) := by
  have hx : a &&& b < 2 ^ 63 := Nat.and_lt_two_pow _ (by omega)
  show IntKind.i64.wrap ((BitVec.ofInt 64 (a : Int) &&& BitVec.ofInt 64 (b : Int)).toNat : Int) = _
  rw [BitVec.toNat_and, ofInt_u64 a (by omega), ofInt_u64 b (by omega)]
  exact IntWalk.i64_in _ (by omega)
theorem i64_or_nat (a b : Nat) (ha : a < 9223372036854775808) (hb : b < 9223372036854775808) : bits .or .i64 (a : Int) (b : Int) = ((a ||| b : Nat) : Int) := by
  have hx : a ||| b < 2 ^ 63 := Nat.or_lt_two_pow (by omega) (by omega)
  show IntKind.i64.wrap ((BitVec.ofInt 64 (a : Int) ||| BitVec.ofInt 64 (b : Int)).toNat : Int) = _
  rw [BitVec.toNat_or, ofInt_u64 a (by omega), ofInt_u64 b (by omega)]
  exact IntWalk.i64_in _ (by omega)

theorem u8_and127 (c : Int) (h0 : 0 ≤ c) (h1 : c ≤ 255) : bits .and .u8 c 127 = c % 128 := by
  have := u8_and c 127 h0 (by omega) (by omega) (by omega)
  rw [this, show (127 : Int).toNat = 127 from rfl, nat_mask7]
  omega

/-- the sum's step on one bit -/
def cstep (x : Nat) : Nat := if x % 2 = 1 then (x / 2) ^^^ 2197175160 else x / 2
def cstepN : Nat → Nat → Nat
  | 0, x => x
  | k + 1, x => cstep (cstepN k x)
def cbyte (x c : Nat) : Nat := cstepN 8 (x ^^^ c)
theorem cstep_lt {x : Nat} (h : x < 4294967296) : cstep x < 4294967296 := by
  unfold cstep
  split
  · exact Nat.xor_lt_two_pow (n := 32) (by omega) (by omega)
  · omega
theorem cstepN_lt {x : Nat} (h : x < 4294967296) : ∀ k, cstepN k x < 4294967296
  | 0 => h
  | k + 1 => cstep_lt (cstepN_lt h k)
theorem cxor_lt {x c : Nat} (h : x < 4294967296) (hc : c < 4294967296) : x ^^^ c < 4294967296 := Nat.xor_lt_two_pow (n := 32) (by omega) (by omega)
theorem cbyte_lt {x c : Nat} (h : x < 4294967296) (hc : c < 256) : cbyte x c < 4294967296 := cstepN_lt (cxor_lt h (by omega)) 8
end Go.Proofs.YtofdbnkeddcdjaaDoor
/-
  Numbers in bytes, plainly: what GetNum reads (numR) and what PutNum writes (encN), and that they are inverse. No program is spoken of here.
-/
namespace Go.Proofs.YtofdbnkeddcdjaaDoor
open Go.RowKit
set_option linter.unusedVariables false

def accN (bs : List UInt8) (A : Nat) : Nat → Nat
  | 0 => 0
  | k + 1 => accN bs A k + (byteAt bs (A + k)).toNat % 128 * 128 ^ k
theorem accN_lt (bs : List UInt8) (A : Nat) : ∀ k, accN bs A k < 128 ^ k
  | 0 => by show 0 < 1; omega
  | k + 1 => by
    have h := accN_lt bs A k
    show accN bs A k + (byteAt bs (A + k)).toNat % 128 * 128 ^ k < 128 ^ (k + 1)
    have h2 : (byteAt bs (A + k)).toNat % 128 ≤ 127 := by omega
    have h3 := Nat.mul_le_mul_right (128 ^ k) h2
    rw [Nat.pow_succ]
    omega
/-- where the last group of a number stands: the first byte below 128, at most five bytes on -/
def scanN (bs : List UInt8) (A : Nat) : Nat → Nat → Option Nat
  | 0, _ => none
  | f + 1, k => if A + k < bs.length then (if byteAt bs (A + k) < 128 then some k else scanN bs A f (k + 1)) else none
def unfN (m : Nat) : Int := if m % 2 = 1 then -((m / 2 : Nat) : Int) - 1 else ((m / 2 : Nat) : Int)
/-- what GetNum answers -/
def numR (bs : List UInt8) (at' : Int) : Int × Int × Bool :=
  if at' < 0 then (0, 0, false)
  else match scanN bs at'.toNat 5 0 with
    | none => (0, 0, false)
    | some k => if (k ≠ 0 ∧ byteAt bs (at'.toNat + k) = 0) ∨ 2000000000 < accN bs at'.toNat (k + 1) then (0, 0, false)
      else (unfN (accN bs at'.toNat (k + 1)), at' + k + 1, true)

theorem scanN_out {bs : List UInt8} {A : Nat} (h : bs.length ≤ A) (f k : Nat) : scanN bs A f k = none := by
  cases f with
  | zero => rfl
  | succ f => unfold scanN; rw [if_neg (by omega)]
theorem or_acc {a x k : Nat} (ha : a < 128 ^ k) : a ||| (x * 128 ^ k) = a + x * 128 ^ k := by
  have e : (128 : Nat) ^ k = 2 ^ (7 * k) := by rw [Nat.pow_mul]
  rw [e] at ha ⊢
  rw [Nat.or_comm, Nat.add_comm]
  exact nat_join (7 * k) (x * 2 ^ (7 * k)) a (Nat.mul_mod_left _ _) ha
theorem pow128_le {k : Nat} (h : k ≤ 5) : 128 ^ k ≤ 34359738368 := by
  have : (128 : Nat) ^ k ≤ 128 ^ 5 := Nat.pow_le_pow_right (by omega) h
  exact this
theorem or_step {m k : Nat} {c : Int} (hm : m < 128 ^ k) (hk : k < 5) (h0 : 0 ≤ c) (h1 : c ≤ 255) :
    bits .or .i64 (m : Int) (wrap64 (c % 128 * 2 ^ (7 * k))) = ((m + c.toNat % 128 * 128 ^ k : Nat) : Int) := by
  obtain ⟨d, rfl⟩ := Int.eq_ofNat_of_zero_le h0
  have hp := pow128_le (k := k) (by omega)
  have e : ((d : Int) % 128 * 2 ^ (7 * k)) = ((d % 128 * 128 ^ k : Nat) : Int) := by
    have e2 : ((2 : Int) ^ (7 * k)) = ((128 ^ k : Nat) : Int) := by
      rw [show (128 : Nat) ^ k = 2 ^ (7 * k) by rw [Nat.pow_mul]]
      exact (Int.natCast_pow 2 (7 * k)).symm
    rw [e2, Int.natCast_mul]
    rfl
  have hb : d % 128 * 128 ^ k ≤ 127 * 34359738368 := Nat.mul_le_mul (by omega) hp
  rw [e, IntWalk.wrap64_in _ (by omega), i64_or_nat _ _ (by omega) (by omega), or_acc hm]
  simp
theorem scanN_end {bs : List UInt8} {A k : Nat} (h5 : k < 5) (h : ¬ A + k < bs.length) : scanN bs A (5 - k) k = none := by
  rw [show 5 - k = (4 - k) + 1 by omega]
  unfold scanN
  rw [if_neg h]
theorem scanN_last {bs : List UInt8} {A k : Nat} (h5 : k < 5) (h : A + k < bs.length) (hc : byteAt bs (A + k) < 128) : scanN bs A (5 - k) k = some k := by
  rw [show 5 - k = (4 - k) + 1 by omega]
  unfold scanN
  rw [if_pos h, if_pos hc]
theorem scanN_more {bs : List UInt8} {A k : Nat} (h5 : k < 5) (h : A + k < bs.length) (hc : ¬ byteAt bs (A + k) < 128) : scanN bs A (5 - k) k = scanN bs A (5 - (k + 1)) (k + 1) := by
  rw [show 5 - k = (5 - (k + 1)) + 1 by omega]
  rw [scanN, if_pos h, if_neg hc]
theorem scanN_ge {bs : List UInt8} {A : Nat} : ∀ f k r, scanN bs A f k = some r → k ≤ r ∧ r < k + f
  | 0, k, r, h => by simp [scanN] at h
  | f + 1, k, r, h => by
    unfold scanN at h
    split at h
    · split at h
      · simp at h; omega
      · have := scanN_ge f (k + 1) r h; omega
    · simp at h
theorem scanN_lt {bs : List UInt8} {A r : Nat} (h : scanN bs A 5 0 = some r) : r < 5 := by have := scanN_ge 5 0 r h; omega
theorem numR_none {bs : List UInt8} {A : Nat} (h : scanN bs A 5 0 = none) : numR bs (A : Int) = (0, 0, false) := by
  unfold numR
  rw [if_neg (by omega), Int.toNat_natCast, h]
theorem numR_some {bs : List UInt8} {A k : Nat} (h : scanN bs A 5 0 = some k) : numR bs (A : Int) = if (k ≠ 0 ∧ byteAt bs (A + k) = 0) ∨ 2000000000 < accN bs A (k + 1) then (0, 0, false) else (unfN (accN bs A (k + 1)), (A : Int) + k + 1, true) := by
  unfold numR
  rw [if_neg (by omega), Int.toNat_natCast, h]
theorem numR_neg {bs : List UInt8} {a : Int} (h : a < 0) : numR bs a = (0, 0, false) := by
  unfold numR
  rw [if_pos h]
theorem numR_past {bs : List UInt8} {a : Int} (h : (bs.length : Int) ≤ a) : numR bs a = (0, 0, false) := by
  obtain ⟨A, rfl⟩ := Int.eq_ofNat_of_zero_le (show 0 ≤ a by omega)
  exact numR_none (scanN_out (by omega) _ _)
theorem unfN_odd {m : Nat} (h : m % 2 = 1) : unfN m = -((m : Int) / 2) - 1 := by unfold unfN; rw [if_pos h]; omega
theorem unfN_even {m : Nat} (h : ¬ m % 2 = 1) : unfN m = (m : Int) / 2 := by unfold unfN; rw [if_neg h]; omega
theorem unfN_in (m : Nat) : inB (unfN m) (-1000000000) 1000000000 = !decide (2000000000 < m) := by
  by_cases h : m % 2 = 1
  · rw [unfN_odd h]
    by_cases h2 : 2000000000 < m
    · rw [inB_f (by omega)]; simp [h2]
    · rw [inB_t (by omega)]; simp [h2]
  · rw [unfN_even h]
    by_cases h2 : 2000000000 < m
    · rw [inB_f (by omega)]; simp [h2]
    · rw [inB_t (by omega)]; simp [h2]
theorem ret_num {bs : List UInt8} {A : Nat} {x y : Int} {z : Bool} (h : numR bs (A : Int) = (x, y, z)) :
    Ending.returned (.tuple #[.int .i64 x, .int .i64 y, .bool z]) = .returned (.tuple #[.int .i64 (numR bs (A : Int)).1, .int .i64 (numR bs (A : Int)).2.1, .bool (numR bs (A : Int)).2.2]) := by rw [h]

/-- what the groups at a place hold: the number as it was folded, the place behind, whether the form is the shortest -/
def grpR (bs : List UInt8) (A : Nat) : Int × Int × Bool :=
  match scanN bs A 5 0 with
  | none => (0, 0, false)
  | some k => (((accN bs A (k + 1) : Nat) : Int), (A : Int) + k + 1, k == 0 || byteAt bs (A + k) != 0)
theorem grpR_none {bs : List UInt8} {A : Nat} (h : scanN bs A 5 0 = none) : grpR bs A = (0, 0, false) := by unfold grpR; rw [h]
theorem grpR_some {bs : List UInt8} {A k : Nat} (h : scanN bs A 5 0 = some k) : grpR bs A = (((accN bs A (k + 1) : Nat) : Int), (A : Int) + k + 1, k == 0 || byteAt bs (A + k) != 0) := by unfold grpR; rw [h]
theorem ret_grp {bs : List UInt8} {A : Nat} {x y : Int} {z : Bool} (h : grpR bs A = (x, y, z)) :
    Ending.returned (.tuple #[.int .i64 x, .int .i64 y, .bool z]) = .returned (.tuple #[.int .i64 (grpR bs A).1, .int .i64 (grpR bs A).2.1, .bool (grpR bs A).2.2]) := by rw [h]
/-- the number out of its groups -/
theorem numR_grp (bs : List UInt8) (A : Nat) : ∃ M : Nat, M < 34359738368 ∧ (grpR bs A).1 = (M : Int) ∧
    numR bs (A : Int) = if (grpR bs A).2.2 = false ∨ 2000000000 < M then (0, 0, false) else (unfN M, (grpR bs A).2.1, true) := by
  cases h : scanN bs A 5 0 with
  | none => exact ⟨0, by omega, by rw [grpR_none h]; rfl, by rw [numR_none h, grpR_none h]; simp⟩
  | some k =>
    have hk : k < 5 := scanN_lt h
    have hlt := accN_lt bs A (k + 1)
    have hp := pow128_le (k := k + 1) (by omega)
    refine ⟨accN bs A (k + 1), by omega, by rw [grpR_some h], ?_⟩
    rw [numR_some h, grpR_some h]
    by_cases h1 : k = 0 <;> by_cases h2 : byteAt bs (A + k) = 0 <;> by_cases h3 : 2000000000 < accN bs A (k + 1) <;> simp [h1, h2, h3]

theorem scanN_some {bs : List UInt8} {A : Nat} : ∀ f k r, scanN bs A f k = some r → A + r < bs.length
  | 0, k, r, h => by simp [scanN] at h
  | f + 1, k, r, h => by
    unfold scanN at h
    split at h
    · split at h
      · simp at h; omega
      · exact scanN_some f (k + 1) r h
    · simp at h
/-- a number that was read lies within the bytes -/
theorem numR_true {bs : List UInt8} {x : Int} (h : (numR bs x).2.2 = true) : 0 ≤ x ∧ x < (numR bs x).2.1 ∧ (numR bs x).2.1 ≤ bs.length := by
  by_cases h0 : x < 0
  · rw [numR_neg h0] at h; cases h
  · obtain ⟨A, rfl⟩ := Int.eq_ofNat_of_zero_le (show 0 ≤ x by omega)
    cases hs : scanN bs A 5 0 with
    | none => rw [numR_none hs] at h; cases h
    | some k =>
      rw [numR_some hs] at h ⊢
      split at h
      · cases h
      · rename_i hc
        rw [if_neg hc]
        have := scanN_some 5 0 k hs
        simp only
        omega
end Go.Proofs.YtofdbnkeddcdjaaDoor
/-
  Numbers as bytes, plainly: what PutNum writes behind. No program is spoken of here.
-/
namespace Go.Proofs.YtofdbnkeddcdjaaDoor
open Go.RowKit
set_option linter.unusedVariables false

/-- the number as it is kept: no further out than the most either way -/
def clampN (n : Int) : Int := if n < -1000000000 then -1000000000 else if 1000000000 < n then 1000000000 else n
def foldN (n : Int) : Nat := if n < 0 then (-2 * n - 1).toNat else (2 * n).toNat
/-- its groups of seven bits, the lowest first -/
def encG : Nat → Nat → List UInt8
  | 0, m => [UInt8.ofNat m]
  | f + 1, m => if m < 128 then [UInt8.ofNat m] else UInt8.ofNat (m % 128 + 128) :: encG f (m / 128)
def encN (n : Int) : List UInt8 := encG 5 (foldN (clampN n))

theorem clampN_in (n : Int) : -1000000000 ≤ clampN n ∧ clampN n ≤ 1000000000 := by unfold clampN; split; omega; split <;> omega
theorem foldN_le {n : Int} (h : -1000000000 ≤ n ∧ n ≤ 1000000000) : foldN n ≤ 2000000000 := by unfold foldN; split <;> omega
theorem foldN_neg {n : Int} (h : n < 0) : ((foldN n : Nat) : Int) = -2 * n - 1 := by unfold foldN; rw [if_pos h]; omega
theorem foldN_pos {n : Int} (h : ¬ n < 0) : ((foldN n : Nat) : Int) = 2 * n := by unfold foldN; rw [if_neg h]; omega
theorem fold_cases (n : Int) : (1000000000 < n ∧ ((foldN (clampN n) : Nat) : Int) = 2000000000) ∨ (n < -1000000000 ∧ ((foldN (clampN n) : Nat) : Int) = 1999999999) ∨
    ((-1000000000 ≤ n ∧ n < 0) ∧ ((foldN (clampN n) : Nat) : Int) = -2 * n - 1) ∨ ((0 ≤ n ∧ n ≤ 1000000000) ∧ ((foldN (clampN n) : Nat) : Int) = 2 * n) := by
  unfold clampN
  split
  · rw [foldN_neg (by omega)]; omega
  · split
    · rw [foldN_pos (by omega)]; omega
    · by_cases h : n < 0
      · rw [foldN_neg h]; omega
      · rw [foldN_pos h]; omega
theorem encG_length : ∀ f m, (encG f m).length ≤ f + 1
  | 0, m => by simp [encG]
  | f + 1, m => by
    unfold encG
    split
    · simp
    · have := encG_length f (m / 128); simp; omega
theorem encN_length (n : Int) : (encN n).length ≤ 6 := encG_length 5 _
theorem encG_small {f m : Nat} (h : m < 128) : encG f m = [UInt8.ofNat m] := by
  cases f with
  | zero => rfl
  | succ f => unfold encG; rw [if_pos h]
theorem encG_big {f m : Nat} (h : ¬ m < 128) : encG (f + 1) m = UInt8.ofNat (m % 128 + 128) :: encG f (m / 128) := by
  rw [encG, if_neg h]
theorem enc_step {f m : Nat} (hb : ¬ m < 128) (hm : m < 128 ^ f) : ∃ g, f = g + 1 ∧ m / 128 < 128 ^ g ∧ encG f m = UInt8.ofNat (m % 128 + 128) :: encG g (m / 128) := by
  cases f with
  | zero => simp at hm; omega
  | succ g =>
    refine ⟨g, rfl, ?_, encG_big hb⟩
    rw [Nat.pow_succ] at hm
    exact Nat.div_lt_of_lt_mul (by omega)
theorem or128 (m : Nat) : bits .or .i64 ((m : Int) % 128) 128 = (m : Int) % 128 + 128 := by
  have h := i64_or_nat (m % 128) 128 (by omega) (by omega)
  have h2 : m % 128 ||| 128 = m % 128 + 128 := by
    rw [Nat.or_comm, Nat.add_comm]
    exact nat_join 7 128 (m % 128) (by decide) (by omega)
  rw [h2] at h
  have e : (((m % 128 : Nat) : Int)) = (m : Int) % 128 := by omega
  rw [e] at h
  rw [show ((m % 128 + 128 : Nat) : Int) = (m : Int) % 128 + 128 by omega] at h
  exact h
theorem vals_cont (m : Nat) : [Value.int .u8 ((m : Int) % 128 + 128)] = vals [UInt8.ofNat (m % 128 + 128)] := by
  simp [vals]; omega
theorem vals_last {m : Nat} (h : m < 128) : [Value.int .u8 (m : Int)] = vals [UInt8.ofNat m] := by
  simp [vals]; omega
theorem one_cell (v : Value) (w : World) (e : TypeId) : ∀ j u, [v][j]? = some u → (w.alloc (.cells #[v] e)).cell? ((⟨w.heap.size, 0, none⟩ : Addr).add j) = some u := by
  intro j u hj
  match j, hj with
  | 0, hj => simp at hj; subst hj; simp [Addr.add]
theorem vals_one (bs : List UInt8) : ∀ u ∈ vals bs, u.oneCell' = true := by
  intro u hu
  obtain ⟨_, _, rfl⟩ := List.mem_map.1 hu
  rfl
theorem pre_length {pre r : List UInt8} {n : Int} (h : pre ++ r = encN n) : pre.length ≤ 6 := by
  have := encN_length n; rw [← h] at this; simp at this; omega
theorem encG_pos : ∀ f m, 0 < (encG f m).length
  | 0, m => by simp [encG]
  | f + 1, m => by unfold encG; split <;> simp
theorem encN_pos (n : Int) : 0 < (encN n).length := encG_pos _ _
end Go.Proofs.YtofdbnkeddcdjaaDoor
/-
  Texts in bytes, plainly: what GetText reads. And a slice of bytes turned into a text.
-/
namespace Go.Proofs.YtofdbnkeddcdjaaDoor
open Go.RowKit
set_option linter.unusedVariables false

/-- what GetText answers -/
def textR (bs : List UInt8) (x : Int) : ByteArray × Int × Bool :=
  if (numR bs x).2.2 = false ∨ (numR bs x).1 < 0 ∨ (bs.length : Int) - (numR bs x).2.1 < (numR bs x).1 then (ByteArray.empty, 0, false)
  else (⟨((bs.drop (numR bs x).2.1.toNat).take (numR bs x).1.toNat).toArray⟩, (numR bs x).2.1 + (numR bs x).1, true)
theorem textR_no {bs : List UInt8} {x : Int} (h : (numR bs x).2.2 = false ∨ (numR bs x).1 < 0 ∨ (bs.length : Int) - (numR bs x).2.1 < (numR bs x).1) : textR bs x = (ByteArray.empty, 0, false) := by
  unfold textR; rw [if_pos h]
theorem textR_yes (bs : List UInt8) (x : Int) (P N : Nat) (h : ¬ ((numR bs x).2.2 = false ∨ (numR bs x).1 < 0 ∨ (bs.length : Int) - (numR bs x).2.1 < (numR bs x).1)) (hP : (numR bs x).2.1 = P) (hN : (numR bs x).1 = N) :
    textR bs x = (⟨((bs.drop P).take N).toArray⟩, (P : Int) + N, true) := by
  unfold textR; rw [if_neg h, hP, hN]; rfl
theorem ret_text {bs : List UInt8} {x : Int} {s : ByteArray} {y : Int} {z : Bool} (h : textR bs x = (s, y, z)) :
    Ending.returned (.tuple #[.string s, .int .i64 y, .bool z]) = .returned (.tuple #[.string (textR bs x).1, .int .i64 (textR bs x).2.1, .bool (textR bs x).2.2]) := by rw [h]

theorem conv_part {b off P N : Nat} {bs : List UInt8} {w : World} (h : P + N ≤ bs.length) (hc : ∀ i, i < bs.length → w.cell? ⟨b, off + i, none⟩ = some (.int .u8 (byteAt bs i))) (c' : Nat) :
    (convert 22 9 (.slice (some ⟨b, off + P, none⟩) N c')).run Tryd.prog w = .ok (.string ⟨((bs.drop P).take N).toArray⟩) w := by
  have hl : ((bs.drop P).take N).length = N := by simp; omega
  have := run_convert_bytes_back (P := Tryd.prog) w 22 9 5 ⟨b, off + P, none⟩ c' ((bs.drop P).take N) Tryd.underlying22 Tryd.underlying5 Tryd.underlying9 (fun j hj => by
    have hj2 : j < N := by omega
    rw [Addr.add_lit, Nat.add_assoc, hc (P + j) (by omega)]
    unfold byteAt
    simp [List.getD, show P + j < bs.length by omega])
  rw [hl] at this
  exact this

end Go.Proofs.YtofdbnkeddcdjaaDoor
/-
  Numbers and texts come back of their bytes, plainly: what numR and textR read behind what encN and encT write. No program is spoken of here.
-/
namespace Go.Proofs.YtofdbnkeddcdjaaDoor
open Go.RowKit
set_option linter.unusedVariables false

theorem encG_fit : ∀ f m g, m < 128 ^ (g + 1) → (encG f m).length ≤ g + 1
  | 0, m, g, h => by simp [encG]
  | f + 1, m, 0, h => by simp at h; rw [encG_small (by omega)]; simp
  | f + 1, m, g + 1, h => by
    by_cases hs : m < 128
    · rw [encG_small hs]; simp
    · rw [encG_big hs]
      have := encG_fit f (m / 128) g (by rw [Nat.pow_succ] at h; exact Nat.div_lt_of_lt_mul (by omega))
      simp; omega
theorem byteAt_ofNat {m : Nat} (h : m < 256) (r : List UInt8) : byteAt (UInt8.ofNat m :: r) 0 = (m : Int) := by
  unfold byteAt; simp [List.getD]; omega
theorem byteAt_cons (c : UInt8) (r : List UInt8) (i : Nat) : byteAt (c :: r) (i + 1) = byteAt r i := by
  unfold byteAt; simp [List.getD]
theorem byteAt_append (a b : List UInt8) (i : Nat) : byteAt (a ++ b) (a.length + i) = byteAt b i := by
  unfold byteAt; simp [List.getD, List.getElem?_append_right]

/-- the groups of m stand at A + k: the scan finds their last one, they add up to m, and their last one is 0 only where m is -/
theorem scan_enc (L : List UInt8) (A : Nat) : ∀ f m k F, m < 128 ^ (f + 1) → (encG f m).length ≤ F →
    (∀ j, j < (encG f m).length → byteAt L (A + k + j) = byteAt (encG f m) j) → A + k + (encG f m).length ≤ L.length →
    scanN L A F k = some (k + (encG f m).length - 1) ∧ accN L A (k + (encG f m).length) = accN L A k + m * 128 ^ k ∧ (byteAt L (A + (k + (encG f m).length - 1)) = 0 → m = 0)
  | f, m, k, F, hm, hF, hb, hl => by
    by_cases hs : m < 128
    · rw [encG_small hs] at hF hb hl ⊢
      simp at hF hl ⊢
      have h0 := hb 0 (by simp)
      rw [Nat.add_zero, byteAt_ofNat (by omega)] at h0
      obtain ⟨F', rfl⟩ : ∃ F', F = F' + 1 := ⟨F - 1, by omega⟩
      refine ⟨?_, ?_, ?_⟩
      · rw [scanN, if_pos (by omega), if_pos (by omega)]
      · show accN L A k + (byteAt L (A + k)).toNat % 128 * 128 ^ k = _
        rw [h0, Int.toNat_natCast, Nat.mod_eq_of_lt hs]
      · intro h; rw [h0] at h; omega
    · cases f with
      | zero => simp at hm; omega
      | succ f =>
        rw [encG_big hs] at hF hb hl ⊢
        simp only [List.length_cons] at hF hb hl ⊢
        have h0 := hb 0 (by omega)
        rw [Nat.add_zero, byteAt_ofNat (by omega)] at h0
        obtain ⟨F', rfl⟩ : ∃ F', F = F' + 1 := ⟨F - 1, by omega⟩
        have hp := encG_pos f (m / 128)
        have ih := scan_enc L A f (m / 128) (k + 1) F' (by rw [Nat.pow_succ] at hm; exact Nat.div_lt_of_lt_mul (by omega)) (by omega)
          (fun j hj => by
            have := hb (j + 1) (by omega)
            rw [byteAt_cons] at this
            rw [← this, show A + (k + 1) + j = A + k + (j + 1) by omega])
          (by omega)
        obtain ⟨i1, i2, i3⟩ := ih
        refine ⟨?_, ?_, ?_⟩
        · rw [scanN, if_pos (by omega), if_neg (by omega), i1]
          congr 1; omega
        · rw [show k + ((encG f (m / 128)).length + 1) = k + 1 + (encG f (m / 128)).length by omega, i2]
          show accN L A k + (byteAt L (A + k)).toNat % 128 * 128 ^ k + m / 128 * 128 ^ (k + 1) = _
          rw [h0, Nat.pow_succ]
          have e : (((m % 128 + 128 : Nat) : Int)).toNat % 128 = m % 128 := by omega
          rw [e, show m / 128 * (128 ^ k * 128) = (m / 128 * 128) * 128 ^ k by rw [Nat.mul_assoc, Nat.mul_comm 128 (128 ^ k)], Nat.add_assoc, ← Nat.add_mul]
          rw [show m % 128 + m / 128 * 128 = m by omega]
        · intro h
          rw [show k + ((encG f (m / 128)).length + 1) - 1 = k + 1 + (encG f (m / 128)).length - 1 by omega] at h
          have := i3 h
          omega

/-- cut by one byte no number stands there -/
theorem scan_cut (L : List UInt8) (A : Nat) : ∀ f m k F, m < 128 ^ (f + 1) →
    (∀ j, j + 1 < (encG f m).length → byteAt L (A + k + j) = byteAt (encG f m) j) → A + k + (encG f m).length = L.length + 1 → scanN L A F k = none
  | f, m, k, 0, hm, hb, hl => rfl
  | f, m, k, F + 1, hm, hb, hl => by
    by_cases hs : m < 128
    · rw [encG_small hs] at hl
      simp at hl
      rw [scanN, if_neg (by omega)]
    · cases f with
      | zero => simp at hm; omega
      | succ f =>
        rw [encG_big hs] at hb hl
        simp only [List.length_cons] at hb hl
        have hp := encG_pos f (m / 128)
        have h0 := hb 0 (by omega)
        rw [Nat.add_zero, byteAt_ofNat (by omega)] at h0
        rw [scanN, if_pos (by omega), if_neg (by omega)]
        exact scan_cut L A f (m / 128) (k + 1) F (by rw [Nat.pow_succ] at hm; exact Nat.div_lt_of_lt_mul (by omega))
          (fun j hj => by
            have := hb (j + 1) (by omega)
            rw [byteAt_cons] at this
            rw [← this, show A + (k + 1) + j = A + k + (j + 1) by omega])
          (by omega)

theorem unf_fold (n : Int) : unfN (foldN n) = n := by
  by_cases h : n < 0
  · have := foldN_neg h
    rw [unfN_odd (by omega)]; omega
  · have := foldN_pos h
    rw [unfN_even (by omega)]; omega

/-- a number that was put comes back, whatever stands behind it -/
theorem num_back (bs tl : List UInt8) (n : Int) : numR (bs ++ encN n ++ tl) (bs.length : Int) = (clampN n, ((bs ++ encN n).length : Int), true) := by
  have hm := foldN_le (clampN_in n)
  have hf := encG_fit 5 (foldN (clampN n)) 4 (by omega)
  have hp := encG_pos 5 (foldN (clampN n))
  have hs := scan_enc (bs ++ encN n ++ tl) bs.length 5 (foldN (clampN n)) 0 5 (by omega) hf
    (fun j hj => by
      rw [Nat.add_zero, List.append_assoc, byteAt_append]
      unfold byteAt encN
      simp [List.getD, List.getElem?_append_left hj])
    (by simp [encN])
  simp only [Nat.zero_add, Nat.pow_zero, Nat.mul_one] at hs
  obtain ⟨h1, h2, h3⟩ := hs
  rw [numR_some h1, show (encG 5 (foldN (clampN n))).length - 1 + 1 = (encG 5 (foldN (clampN n))).length by omega, h2]
  have e : accN (bs ++ encN n ++ tl) bs.length 0 = 0 := rfl
  rw [e, Nat.zero_add, unf_fold]
  rw [if_neg]
  · simp [encN]; omega
  · rintro (⟨ha, hb⟩ | hb)
    · have := h3 hb
      rw [this, encG_small (by omega)] at ha
      simp at ha
    · omega
theorem num_cut (bs : List UInt8) (n : Int) : (numR ((bs ++ encN n).take ((bs ++ encN n).length - 1)) (bs.length : Int)).2.2 = false := by
  have hm := foldN_le (clampN_in n)
  have hp := encG_pos 5 (foldN (clampN n))
  have hl : ((bs ++ encN n).take ((bs ++ encN n).length - 1)).length = bs.length + (encG 5 (foldN (clampN n))).length - 1 := by
    simp [encN]
  rw [numR_none (scan_cut _ bs.length 5 (foldN (clampN n)) 0 5 (by omega) (fun j hj => by
    rw [Nat.add_zero]
    have e := byteAt_append bs (encN n) j
    unfold byteAt at e ⊢
    rw [← show encN n = encG 5 (foldN (clampN n)) from rfl, ← e]
    simp only [List.getD]
    rw [List.getElem?_take, if_pos (by simp [encN]; omega)]) (by rw [hl]; omega))]

theorem encT_back (bs : List UInt8) (s : ByteArray) (hs : s.size ≤ 1000000000) :
    textR (bs ++ (encN s.size ++ s.data.toList)) (bs.length : Int) = (s, ((bs ++ (encN s.size ++ s.data.toList)).length : Int), true) := by
  have e : s.data.toList.length = s.size := by rw [Array.length_toList]; rfl
  have hc : clampN (s.size : Int) = s.size := by unfold clampN; rw [if_neg (by omega), if_neg (by omega)]
  have hn := num_back bs s.data.toList s.size
  rw [hc, List.append_assoc] at hn
  rw [textR_yes (bs ++ (encN s.size ++ s.data.toList)) bs.length (bs ++ encN s.size).length s.size (by rw [hn]; simp; omega) (by rw [hn]) (by rw [hn])]
  rw [← List.append_assoc, List.drop_left' rfl, List.take_of_length_le (by omega)]
  simp; omega
end Go.Proofs.YtofdbnkeddcdjaaDoor
/-
  What the functions on bytes of names answer, the tested ones and the model's alike: wordB of the byte, in the world as it was.
-/
namespace Go.Proofs.YtofdbnkeddcdjaaDoor
open Go.RowKit
set_option linter.unusedVariables false

set_option maxHeartbeats 400000 in
theorem l1In_any (x a b : Int) (w : World) :
    Calls Tryd.prog 23 #[.int .i64 x, .int .i64 a, .int .i64 b] w fun e w' => e = .returned (.bool (inB x a b)) ∧ w' = w := by
  by_cases h1 : a ≤ x
  · by_cases h2 : x ≤ b
    · rw [inB_t ⟨h1, h2⟩]
      go_enter Tryd.func23, Tryd.ntmps23
      go_wp2
      go_ret
      exact ⟨rfl, rfl⟩
    · rw [inB_f (by omega)]
      go_enter Tryd.func23, Tryd.ntmps23
      go_wp2
      go_ret
      exact ⟨rfl, rfl⟩
  · rw [inB_f (by omega)]
    go_enter Tryd.func23, Tryd.ntmps23
    go_wp2
    go_ret
    exact ⟨rfl, rfl⟩

set_option maxHeartbeats 400000 in
theorem isSmall_any (x : Int) (w : World) :
    Calls Tryd.prog 63 #[.int .u8 x] w fun e w' => e = .returned (.bool (inB x 97 122)) ∧ w' = w := by
  by_cases h1 : 97 ≤ x
  · by_cases h2 : x ≤ 122
    · rw [inB_t ⟨h1, h2⟩]
      go_enter Tryd.func63, Tryd.ntmps63
      go_wp2
      go_ret
      exact ⟨rfl, rfl⟩
    · rw [inB_f (by omega)]
      go_enter Tryd.func63, Tryd.ntmps63
      go_wp2
      go_ret
      exact ⟨rfl, rfl⟩
  · rw [inB_f (by omega)]
    go_enter Tryd.func63, Tryd.ntmps63
    go_wp2
    go_ret
    exact ⟨rfl, rfl⟩


def wordB (x : Int) : Bool := inB x 97 122 || inB x 48 57 || x == 95

set_option maxHeartbeats 400000 in
theorem isDigit_any (x : Int) (w : World) :
    Calls Tryd.prog 64 #[.int .u8 x] w fun e w' => e = .returned (.bool (inB x 48 57)) ∧ w' = w := by
  by_cases h1 : 48 ≤ x
  · by_cases h2 : x ≤ 57
    · rw [inB_t ⟨h1, h2⟩]
      go_enter Tryd.func64, Tryd.ntmps64
      go_wp2
      go_ret
      exact ⟨rfl, rfl⟩
    · rw [inB_f (by omega)]
      go_enter Tryd.func64, Tryd.ntmps64
      go_wp2
      go_ret
      exact ⟨rfl, rfl⟩
  · rw [inB_f (by omega)]
    go_enter Tryd.func64, Tryd.ntmps64
    go_wp2
    go_ret
    exact ⟨rfl, rfl⟩

set_option maxHeartbeats 400000 in
theorem l1Letter_any (x : Int) (w : World) (hl : 0 ≤ x) (hu : x ≤ 255) :
    Calls Tryd.prog 44 #[.int .u8 x] w fun e w' => e = .returned (.bool (wordB x)) ∧ w' = w := by
  cases ha : inB x 97 122 <;> cases hb : inB x 48 57 <;> cases hc : (x == 95)
  all_goals
    have hr : wordB x = (inB x 97 122 || inB x 48 57 || x == 95) := rfl
    rw [ha, hb, hc] at hr
    rw [hr]
    clear hr
    go_enter Tryd.func44, Tryd.ntmps44
    go_wp2_with (go_at_call 23; refine (l1In_any _ _ _ _).mono ?_; rintro e w' ⟨rfl, rfl⟩)
    go_ret
    exact ⟨rfl, rfl⟩

set_option maxHeartbeats 400000 in
theorem isWordByte_any (x : Int) (w : World) :
    Calls Tryd.prog 56 #[.int .u8 x] w fun e w' => e = .returned (.bool (wordB x)) ∧ w' = w := by
  cases ha : inB x 97 122 <;> cases hb : inB x 48 57 <;> cases hc : (x == 95)
  all_goals
    have hr : wordB x = (inB x 97 122 || inB x 48 57 || x == 95) := rfl
    rw [ha, hb, hc] at hr
    rw [hr]
    clear hr
    go_enter Tryd.func56, Tryd.ntmps56
    go_wp2_with (first | (go_at_call 63; refine (isSmall_any _ _).mono ?_; rintro e w' ⟨rfl, rfl⟩) | (go_at_call 64; refine (isDigit_any _ _).mono ?_; rintro e w' ⟨rfl, rfl⟩))
    go_ret
    exact ⟨rfl, rfl⟩

/-- the i-th byte as a number -/
def bat (s : ByteArray) (i : Nat) : Int := if h : i < s.size then ((s[i]'h).toNat : Int) else 0
theorem bat_in {s : ByteArray} {i : Nat} (h : i < s.size) : bat s i = ((s[i]'h).toNat : Int) := by simp [bat, h]

end Go.Proofs.YtofdbnkeddcdjaaDoor
/-
  What allBytes answers of a function value whose answers are known: allB, in the world as it was.
-/
namespace Go.Proofs.YtofdbnkeddcdjaaDoor
open Go.RowKit
set_option linter.unusedVariables false

def allB (P : Int → Bool) (s : ByteArray) : Bool := (List.range s.size).all (fun i => P (bat s i))
theorem allB_no {P : Int → Bool} {s : ByteArray} {i : Nat} (h : i < s.size) (hb : P (bat s i) = false) : allB P s = false := by
  unfold allB
  rw [← Bool.not_eq_true, List.all_eq_true]
  intro h2
  have := h2 i (by simpa using h)
  rw [hb] at this
  cases this
theorem allB_yes {P : Int → Bool} {s : ByteArray} (h : ∀ i, i < s.size → P (bat s i) = true) : allB P s = true := by
  unfold allB
  rw [List.all_eq_true]
  intro i hi
  exact h i (by simpa using hi)

set_option maxHeartbeats 800000 in
theorem allBytesWord_any (s : ByteArray) (w : World) (hs : s.size ≤ maxLen) :
    Calls Tryd.prog 55 #[.string s, .func (.func 56) #[] #[]] w fun e w' => e = .returned (.bool (allB wordB s)) ∧ w' = w := by
  unfold maxLen at hs
  go_enter Tryd.func55, Tryd.ntmps55
  go_wp2
  go_loop [8] (fun i => ∃ k : Nat, k ≤ s.size ∧ i = .int .i64 k ∧ ∀ j, j < k → wordB (bat s j) = true) (fun i => s.size - (intOf i).toNat)
  case atStart => exact ⟨0, Nat.zero_le _, rfl, fun j hj => absurd hj (Nat.not_lt_zero _)⟩
  case round =>
    obtain ⟨k, hk, rfl, hall⟩ := hrel
    have HA := hide hall
    clear hall
    by_cases hlt : k < s.size
    · have HB := hide (bat_in hlt)
      cases hw : wordB ((s[k]'hlt).toNat : Int)
      · have HN := hide (allB_no (P := wordB) hlt (by rw [HB.out, hw]))
        go_wp2_with (go_at_call 56; refine (isWordByte_any _ _).mono ?_; rintro e w' ⟨rfl, rfl⟩)
        go_ret
        exact ⟨ret_bool HN.out.symm, rfl⟩
      · have HW := hide hw
        go_wp2_with (go_at_call 56; refine (isWordByte_any _ _).mono ?_; rintro e w' ⟨rfl, rfl⟩)
        go_round
        case rel => exact ⟨k + 1, by omega, by go_num, fun j hj => by
          by_cases hjk : j = k
          · rw [hjk, HB.out, HW.out]
          · exact HA.out j (by omega)⟩
        case measure => simp [intOf]; omega
    · have HN := hide (allB_yes (P := wordB) fun i hi => HA.out i (by omega))
      go_wp2
      go_ret
      exact ⟨ret_bool HN.out.symm, rfl⟩
end Go.Proofs.YtofdbnkeddcdjaaDoor
/-
  What the functions on a value's text answer, the tested one and the model alike: textB of the text, in the world as it was.
-/
namespace Go.Proofs.YtofdbnkeddcdjaaDoor
open Go.RowKit
set_option linter.unusedVariables false

/-- may a text be a value's? -/
def textB (s : ByteArray) : Bool := (List.range s.size).all (fun i => wordB (bat s i)) && decide (s.size ≤ 20)

theorem textB_no {s : ByteArray} {i : Nat} (h : i < s.size) (hb : wordB (bat s i) = false) : textB s = false := by
  unfold textB
  rw [Bool.and_eq_false_iff]
  left
  rw [← Bool.not_eq_true, List.all_eq_true]
  intro h2
  have := h2 i (by simpa using h)
  rw [hb] at this
  cases this
theorem textB_all {s : ByteArray} (h : ∀ i, i < s.size → wordB (bat s i) = true) : textB s = decide (s.size ≤ 20) := by
  unfold textB
  have : (List.range s.size).all (fun i => wordB (bat s i)) = true := by
    rw [List.all_eq_true]; intro i hi; exact h i (by simpa using hi)
  rw [this]; simp
theorem textB_size {s : ByteArray} (h : ¬ s.size ≤ 20) : textB s = false := by
  unfold textB
  rw [Bool.and_eq_false_iff]
  right
  simpa using h
theorem textB_le {s : ByteArray} (h : textB s = true) : s.size ≤ 20 := by
  by_cases h2 : s.size ≤ 20
  · exact h2
  · rw [textB_size h2] at h; cases h

set_option maxHeartbeats 800000 in
theorem l2Plain_any (s : ByteArray) (w : World) (hs : s.size ≤ maxLen) :
    Calls Tryd.prog 24 #[.string s] w fun e w' => e = .returned (.bool (textB s)) ∧ w' = w := by
  unfold maxLen at hs
  go_enter Tryd.func24, Tryd.ntmps24
  go_wp2
  go_loop [3] (fun i => ∃ k : Nat, k ≤ s.size ∧ i = .int .i64 k ∧ ∀ j, j < k → wordB (bat s j) = true) (fun i => s.size - (intOf i).toNat)
  case atStart => exact ⟨0, Nat.zero_le _, rfl, fun j hj => absurd hj (Nat.not_lt_zero _)⟩
  case round =>
    obtain ⟨k, hk, rfl, hall⟩ := hrel
    have HA := hide hall
    clear hall
    by_cases hlt : k < s.size
    · have hlb : 0 ≤ ((s[k]'hlt).toNat : Int) := by omega
      have hub : ((s[k]'hlt).toNat : Int) ≤ 255 := by have := (s[k]'hlt).toNat_lt; omega
      have HB := hide (bat_in hlt)
      cases hw : wordB ((s[k]'hlt).toNat : Int)
      · have HN := hide (textB_no hlt (by rw [HB.out, hw]))
        go_wp2_with (go_at_call 44; refine (l1Letter_any _ _ (by omega) (by omega)).mono ?_; rintro e w' ⟨rfl, rfl⟩)
        go_ret
        exact ⟨ret_bool HN.out.symm, rfl⟩
      · have HW := hide hw
        go_wp2_with (go_at_call 44; refine (l1Letter_any _ _ (by omega) (by omega)).mono ?_; rintro e w' ⟨rfl, rfl⟩)
        go_round
        case rel => exact ⟨k + 1, by omega, by go_num, fun j hj => by
          by_cases hjk : j = k
          · rw [hjk, HB.out, HW.out]
          · exact HA.out j (by omega)⟩
        case measure => simp [intOf]; omega
    · have HN := hide (textB_all fun i hi => HA.out i (by omega))
      go_wp2
      go_ret
      exact ⟨ret_bool (by rw [HN.out]; simp; omega), rfl⟩

theorem textB_tail {s : ByteArray} (h : s.size ≤ 20) : textB s = allB wordB s := by
  unfold textB allB
  rw [decide_eq_true h, Bool.and_true]

set_option maxHeartbeats 800000 in
theorem isTextOfVal_any (s : ByteArray) (w : World) (hs : s.size ≤ maxLen) :
    Calls Tryd.prog 43 #[.string s] w fun e w' => e = .returned (.bool (textB s)) ∧ w' = w := by
  have hs2 := hs
  unfold maxLen at hs2
  by_cases h2 : s.size ≤ 20
  · have HN := hide (textB_tail h2)
    go_enter Tryd.func43, Tryd.ntmps43
    go_wp2_with fail
    refine (allBytesWord_any _ _ hs).mono ?_
    rintro e w' ⟨rfl, rfl⟩
    generalize allB wordB s = r at HN ⊢
    go_wp2
    go_ret
    exact ⟨ret_bool HN.out.symm, rfl⟩
  · rw [textB_size h2]
    go_enter Tryd.func43, Tryd.ntmps43
    go_wp2
    go_ret
    exact ⟨rfl, rfl⟩
end Go.Proofs.YtofdbnkeddcdjaaDoor
/-
  Small facts on empty texts and on boxes that a call has made.
-/
namespace Go.Proofs.YtofdbnkeddcdjaaDoor
open Go.RowKit
set_option linter.unusedVariables false

theorem empty_of_size {S : ByteArray} (h : S.size = 0) : S = ⟨#[]⟩ := by
  cases S with
  | mk d =>
    have : d.size = 0 := h
    rw [Array.size_eq_zero_iff] at this
    rw [this]
theorem bcell {W w1 : World} (hb : Below W.heap.size W w1) : (∀ b o, b < W.heap.size → w1.cell? ⟨b, o, none⟩ = W.cell? ⟨b, o, none⟩) ∧ (∀ b o, b < W.heap.size → w1.frozen? ⟨b, o, none⟩ = W.frozen? ⟨b, o, none⟩) :=
  ⟨fun b o h => hb.cell (p := ⟨b, o, none⟩) h, fun b o h => hb.frozen (p := ⟨b, o, none⟩) h⟩
theorem below_box {w w' : World} {o : Obj} (hb : Below (w.alloc o).drew.heap.size (w.alloc o).drew w') : Below w.heap.size w w' :=
  (((Below.refl w.heap.size w).alloc (Nat.le_refl _) o).drew).trans (hb.mono (by simp))
theorem below_boxN (w : World) (o : Obj) (n : Nat) : Below w.heap.size w ((w.alloc o).drewN n) :=
  ((Below.refl w.heap.size w).alloc (Nat.le_refl _) o).trans ⟨rfl, rfl, rfl, Nat.le_refl _, fun _ _ => rfl⟩
theorem isEmpty_false {S : ByteArray} (h : S.size ≠ 0) : S.toList.isEmpty = false := by
  rw [ByteArray.toList_eq]
  cases hd : S.data.toList with
  | nil =>
    exfalso; apply h
    have e : S.data.toList.length = S.size := by rw [Array.length_toList]; rfl
    rw [hd] at e; simpa using e.symm
  | cons a r => rfl
end Go.Proofs.YtofdbnkeddcdjaaDoor
/-
  What the functions on values answer: valB of the value, the tested ones and the model alike; nothing that was there has turned.
-/
namespace Go.Proofs.YtofdbnkeddcdjaaDoor
open Go.RowKit
set_option linter.unusedVariables false

/-- is a value right? -/
def valB (K N : Int) (S : ByteArray) : Bool := (K == 1 && inB N (-1000000000) 1000000000 && decide (S.size = 0)) || (K == 2 && textB S && N == 0)
theorem valB_num {N : Int} (S : ByteArray) (h : -1000000000 ≤ N ∧ N ≤ 1000000000) : valB 1 N S = decide (S.size = 0) := by
  simp [valB, inB_t h]
theorem valB_out {N : Int} (S : ByteArray) (h : ¬ (-1000000000 ≤ N ∧ N ≤ 1000000000)) : valB 1 N S = false := by
  simp [valB, inB_f h]
theorem valB_text (N : Int) (S : ByteArray) : valB 2 N S = (textB S && N == 0) := by
  simp [valB]
theorem valB_none {K : Int} (N : Int) (S : ByteArray) (h1 : K ≠ 1) (h2 : K ≠ 2) : valB K N S = false := by
  simp [valB, h1, h2]

set_option maxHeartbeats 400000 in
theorem asValNum_any (n : Int) (w : World) :
    Calls Tryd.prog 101 #[.int .i64 n] w fun e w' => e = .returned (.agg #[.int .i64 1, .int .i64 n, .string ⟨#[]⟩]) ∧ Below w.heap.size w w' := by
  go_enter Tryd.func101, Tryd.ntmps101
  go_wp2
  go_returns
  exact ⟨rfl, by go_grown⟩

set_option maxHeartbeats 400000 in
theorem asValText_any (s : ByteArray) (w : World) :
    Calls Tryd.prog 102 #[.string s] w fun e w' => e = .returned (.agg #[.int .i64 2, .int .i64 0, .string s]) ∧ Below w.heap.size w w' := by
  go_enter Tryd.func102, Tryd.ntmps102
  go_wp2
  go_returns
  exact ⟨rfl, by go_grown⟩

/-- what spokenOf answers -/
def spokV (K N : Int) (S : ByteArray) : Value :=
  if valB K N S then (if K = 1 then .iface 66 (.int .i64 N) else .iface 68 (.string S)) else .nilIface
theorem spokV_one {N : Int} {S : ByteArray} (h : valB 1 N S = true) : spokV 1 N S = .iface 66 (.int .i64 N) := by simp [spokV, h]
theorem spokV_two {N : Int} {S : ByteArray} (h : valB 2 N S = true) : spokV 2 N S = .iface 68 (.string S) := by simp [spokV, h]
theorem spokV_no {K N : Int} {S : ByteArray} (h : valB K N S = false) : spokV K N S = .nilIface := by simp [spokV, h]

set_option maxHeartbeats 1600000 in
theorem spokenOf_any (K N : Int) (S : ByteArray) (w : World) (hs : S.size ≤ maxLen) :
    Calls Tryd.prog 22 #[.agg #[.int .i64 K, .int .i64 N, .string S]] w fun e w' =>
      e = .returned (spokV K N S) ∧ Below w.heap.size w w' := by
  by_cases hK : K = 1
  · subst hK
    by_cases h1 : -1000000000 ≤ N
    · by_cases h2 : N ≤ 1000000000
      · by_cases hS : S.size = 0
        · rw [spokV_one (by rw [valB_num S ⟨h1, h2⟩]; simpa using hS)]
          obtain rfl := empty_of_size hS
          clear hS
          go_enter Tryd.func22, Tryd.ntmps22
          go_wp2
          go_region_with (go_at_call 101; refine (asValNum_any _ _).mono ?_; rintro e w' ⟨rfl, hb⟩; obtain ⟨hc, hf⟩ := bcell hb)
          all_goals go_wp2
          all_goals go_ret
          all_goals exact ⟨rfl, below_box hb⟩
        · rw [spokV_no (by rw [valB_num S ⟨h1, h2⟩]; simpa using hS)]
          have hE := isEmpty_false hS
          clear hS
          go_enter Tryd.func22, Tryd.ntmps22
          go_wp2
          go_region_with (go_at_call 101; refine (asValNum_any _ _).mono ?_; rintro e w' ⟨rfl, hb⟩; obtain ⟨hc, hf⟩ := bcell hb)
          all_goals go_wp2
          all_goals go_ret
          all_goals exact ⟨rfl, below_box hb⟩
      · rw [spokV_no (valB_out S (by omega))]
        go_enter Tryd.func22, Tryd.ntmps22
        go_wp2
        go_quiet (fail)
        go_wp2
        go_ret
        exact ⟨rfl, below_boxN _ _ _⟩
    · rw [spokV_no (valB_out S (by omega))]
      go_enter Tryd.func22, Tryd.ntmps22
      go_wp2
      go_quiet (fail)
      go_wp2
      go_ret
      exact ⟨rfl, below_boxN _ _ _⟩
  · have hk1 : (K == 1) = false := by simpa using hK
    by_cases hK2 : K = 2
    · subst hK2
      clear hk1 hK
      cases ht : textB S
      · rw [spokV_no (by rw [valB_text, ht]; rfl)]
        go_enter Tryd.func22, Tryd.ntmps22
        go_wp2_with (go_at_call 43; refine (isTextOfVal_any _ _ hs).mono ?_; rintro e w' ⟨rfl, rfl⟩)
        go_quiet (fail)
        go_wp2
        go_ret
        exact ⟨rfl, below_boxN _ _ _⟩
      · by_cases hN : N = 0
        · rw [spokV_two (by rw [valB_text, ht, hN]; rfl)]
          subst hN
          go_enter Tryd.func22, Tryd.ntmps22
          go_wp2_with (go_at_call 43; refine (isTextOfVal_any _ _ hs).mono ?_; rintro e w' ⟨rfl, rfl⟩)
          go_region_with (go_at_call 102; refine (asValText_any _ _).mono ?_; rintro e w' ⟨rfl, hb⟩; obtain ⟨hc, hf⟩ := bcell hb)
          all_goals go_wp2
          all_goals go_ret
          all_goals exact ⟨rfl, below_box hb⟩
        · rw [spokV_no (by rw [valB_text, ht]; simpa using hN)]
          have hn0 : ((0 : Int) == N) = false := by simp; omega
          clear hN
          go_enter Tryd.func22, Tryd.ntmps22
          go_wp2_with (go_at_call 43; refine (isTextOfVal_any _ _ hs).mono ?_; rintro e w' ⟨rfl, rfl⟩)
          go_region_with (go_at_call 102; refine (asValText_any _ _).mono ?_; rintro e w' ⟨rfl, hb⟩; obtain ⟨hc, hf⟩ := bcell hb)
          all_goals go_wp2
          all_goals go_ret
          all_goals exact ⟨rfl, below_box hb⟩
    · rw [spokV_no (valB_none N S hK hK2)]
      have hk2 : (K == 2) = false := by simpa using hK2
      clear hK hK2
      go_enter Tryd.func22, Tryd.ntmps22
      go_wp2
      go_quiet (fail)
      go_wp2
      go_ret
      exact ⟨rfl, below_boxN _ _ _⟩

theorem spokV_nil (K N : Int) (S : ByteArray) : (valB K N S = true ∧ ∃ t v, spokV K N S = .iface t v) ∨ (valB K N S = false ∧ spokV K N S = .nilIface) := by
  cases h : valB K N S
  · exact .inr ⟨rfl, spokV_no h⟩
  · left
    refine ⟨rfl, ?_⟩
    unfold spokV
    rw [h]
    by_cases hk : K = 1
    · exact ⟨_, _, by rw [if_pos rfl, if_pos hk]⟩
    · exact ⟨_, _, by rw [if_pos rfl, if_neg hk]⟩

set_option maxHeartbeats 1600000 in
theorem implValOk_any (K N : Int) (S : ByteArray) (w : World) (hs : S.size ≤ maxLen) :
    Calls Tryd.prog 9 #[.agg #[.int .i64 K, .int .i64 N, .string S]] w fun e w' =>
      e = .returned (.bool (valB K N S)) ∧ Below w.heap.size w w' := by
  go_enter Tryd.func9, Tryd.ntmps9
  go_wp2_with fail
  refine (spokenOf_any K N S _ hs).mono ?_
  rintro e w1 ⟨rfl, hb⟩
  have hb1 : Below w.heap.size w w1 := ((Below.refl w.heap.size w).alloc (Nat.le_refl _) _).trans (hb.mono (by simp))
  clear hb
  rcases spokV_nil K N S with ⟨h1, t, v, h2⟩ | ⟨h1, h2⟩
  · rw [h2]
    have H1 := hide h1
    clear h1 h2
    go_wp2
    go_ret
    exact ⟨ret_bool H1.out.symm, hb1⟩
  · rw [h2]
    have H1 := hide h1
    clear h1 h2
    go_wp2
    go_ret
    exact ⟨ret_bool H1.out.symm, hb1⟩

set_option maxHeartbeats 1600000 in
theorem specValOk_any (K N : Int) (S : ByteArray) (w : World) (hs : S.size ≤ maxLen) :
    Calls Tryd.prog 8 #[.agg #[.int .i64 K, .int .i64 N, .string S]] w fun e w' =>
      e = .returned (.bool (valB K N S)) ∧ w.grownBy w' none := by
  by_cases hK : K = 1
  · subst hK
    cases hi : inB N (-1000000000) 1000000000
    · have HV : Hid (valB 1 N S = false) := by unfold Hid valB; rw [hi]; simp
      go_enter Tryd.func8, Tryd.ntmps8
      go_wp2_with (go_at_call 23; refine (l1In_any _ _ _ _).mono ?_; rintro e w' ⟨rfl, rfl⟩)
      go_ret
      exact ⟨ret_bool HV.out.symm, World.grownBy_alloc _ _ _⟩
    · by_cases hS : S.size = 0
      · obtain rfl := empty_of_size hS
        have HV : Hid (valB 1 N ⟨#[]⟩ = true) := by unfold Hid valB; rw [hi]; rfl
        clear hS
        go_enter Tryd.func8, Tryd.ntmps8
        go_wp2_with (go_at_call 23; refine (l1In_any _ _ _ _).mono ?_; rintro e w' ⟨rfl, rfl⟩)
        go_ret
        exact ⟨ret_bool HV.out.symm, World.grownBy_alloc _ _ _⟩
      · have HV : Hid (valB 1 N S = false) := by unfold Hid valB; rw [hi]; simpa using hS
        have hE := isEmpty_false hS
        clear hS
        go_enter Tryd.func8, Tryd.ntmps8
        go_wp2_with (go_at_call 23; refine (l1In_any _ _ _ _).mono ?_; rintro e w' ⟨rfl, rfl⟩)
        go_ret
        exact ⟨ret_bool HV.out.symm, World.grownBy_alloc _ _ _⟩
  · have hk1 : (K == 1) = false := by simpa using hK
    by_cases hK2 : K = 2
    · subst hK2
      clear hk1 hK
      have HV := hide (valB_text N S)
      cases ht : textB S
      · rw [ht] at HV
        go_enter Tryd.func8, Tryd.ntmps8
        go_wp2_with (go_at_call 24; refine (l2Plain_any _ _ hs).mono ?_; rintro e w' ⟨rfl, rfl⟩)
        go_ret
        exact ⟨ret_bool HV.out.symm, World.grownBy_alloc _ _ _⟩
      · rw [ht] at HV
        go_enter Tryd.func8, Tryd.ntmps8
        go_wp2_with (go_at_call 24; refine (l2Plain_any _ _ hs).mono ?_; rintro e w' ⟨rfl, rfl⟩)
        go_ret
        exact ⟨ret_bool HV.out.symm, World.grownBy_alloc _ _ _⟩
    · have HV := hide (valB_none N S hK hK2)
      have hk2 : (K == 2) = false := by simpa using hK2
      clear hK hK2
      go_enter Tryd.func8, Tryd.ntmps8
      go_wp2
      go_ret
      exact ⟨ret_bool HV.out.symm, World.grownBy_alloc _ _ _⟩
end Go.Proofs.YtofdbnkeddcdjaaDoor
/-
  Values in bytes, plainly: what GetVal reads.
-/
namespace Go.Proofs.YtofdbnkeddcdjaaDoor
open Go.RowKit
set_option linter.unusedVariables false

theorem numR_false {bs : List UInt8} {x : Int} (h : (numR bs x).2.2 = false) : numR bs x = (0, 0, false) := by
  by_cases h0 : x < 0
  · exact numR_neg h0
  · obtain ⟨A, rfl⟩ := Int.eq_ofNat_of_zero_le (show 0 ≤ x by omega)
    cases hs : scanN bs A 5 0 with
    | none => exact numR_none hs
    | some k =>
      rw [numR_some hs] at h ⊢
      split at h
      · rename_i hc; rw [if_pos hc]
      · simp at h
theorem textR_size (bs : List UInt8) (x : Int) : (textR bs x).1.size ≤ bs.length := by
  unfold textR
  split
  · exact Nat.zero_le _
  · show (((bs.drop _).take _).toArray).size ≤ _
    simp; omega

/-- what GetVal answers -/
def valR (bs : List UInt8) (x : Int) : Int × Int × ByteArray × Int × Bool :=
  if (numR bs x).2.2 = false then (0, 0, ⟨#[]⟩, 0, false)
  else if (numR bs x).1 = 1 then
    if (numR bs (numR bs x).2.1).2.2 && valB 1 (numR bs (numR bs x).2.1).1 ⟨#[]⟩ then (1, (numR bs (numR bs x).2.1).1, ⟨#[]⟩, (numR bs (numR bs x).2.1).2.1, true) else (0, 0, ⟨#[]⟩, 0, false)
  else
    if (textR bs (numR bs x).2.1).2.2 && valB (numR bs x).1 0 (textR bs (numR bs x).2.1).1 then ((numR bs x).1, 0, (textR bs (numR bs x).2.1).1, (textR bs (numR bs x).2.1).2.1, true) else (0, 0, ⟨#[]⟩, 0, false)
def valT (r : Int × Int × ByteArray × Int × Bool) : Value := .tuple #[.agg #[.int .i64 r.1, .int .i64 r.2.1, .string r.2.2.1], .int .i64 r.2.2.2.1, .bool r.2.2.2.2]
theorem valR_no {bs : List UInt8} {x : Int} (h : (numR bs x).2.2 = false) : valR bs x = (0, 0, ⟨#[]⟩, 0, false) := by unfold valR; rw [if_pos h]
theorem valR_num {bs : List UInt8} {x p n q : Int} {b : Bool} (h : numR bs x = (1, p, true)) (h2 : numR bs p = (n, q, b)) :
    valR bs x = if b && valB 1 n ⟨#[]⟩ then (1, n, ⟨#[]⟩, q, true) else (0, 0, ⟨#[]⟩, 0, false) := by
  unfold valR; rw [h, if_neg (by simp), if_pos rfl, h2]
theorem valR_text {bs : List UInt8} {x k p q : Int} {s : ByteArray} {b : Bool} (h : numR bs x = (k, p, true)) (hk : k ≠ 1) (h2 : textR bs p = (s, q, b)) :
    valR bs x = if b && valB k 0 s then (k, 0, s, q, true) else (0, 0, ⟨#[]⟩, 0, false) := by
  unfold valR; rw [h, if_neg (by simp), if_neg hk, h2]
theorem ret_val {bs : List UInt8} {x : Int} {r : Int × Int × ByteArray × Int × Bool} (h : valR bs x = r) : Ending.returned (valT r) = .returned (valT (valR bs x)) := by rw [h]
end Go.Proofs.YtofdbnkeddcdjaaDoor
/-
  Texts as bytes, plainly: what PutText writes behind.
-/
namespace Go.Proofs.YtofdbnkeddcdjaaDoor
open Go.RowKit
set_option linter.unusedVariables false

def encT (s : ByteArray) : List UInt8 := encN s.size ++ s.data.toList
theorem encT_length (s : ByteArray) : (encT s).length ≤ 6 + s.size := by
  have := encN_length s.size
  have e : s.data.toList.length = s.size := by rw [Array.length_toList]; rfl
  simp [encT]; omega
theorem strCells_vals (s : ByteArray) : Lib.strCells s = vals s.data.toList := rfl
theorem encT_join (bs : List UInt8) (s : ByteArray) : vals (bs ++ encN s.size) ++ Lib.strCells s = vals (bs ++ encT s) := by
  rw [strCells_vals, ← vals_append]; simp [encT]
theorem encT_len (bs : List UInt8) (s : ByteArray) : bs.length + (encN s.size).length + s.size = (bs ++ encT s).length := by
  have e : s.data.toList.length = s.size := by rw [Array.length_toList]; rfl
  simp only [encT, List.length_append]; omega

end Go.Proofs.YtofdbnkeddcdjaaDoor
/-
  Values as bytes, plainly: what PutVal writes behind.
-/
namespace Go.Proofs.YtofdbnkeddcdjaaDoor
open Go.RowKit
set_option linter.unusedVariables false

def encV (K N : Int) (S : ByteArray) : List UInt8 := encN K ++ (if K = 1 then encN N else encT S)
theorem encV_num (N : Int) (S : ByteArray) : encV 1 N S = encN 1 ++ encN N := by simp [encV]
theorem encV_text {K : Int} (N : Int) (S : ByteArray) (h : K ≠ 1) : encV K N S = encN K ++ encT S := by simp [encV, h]
theorem encV_length (K N : Int) (S : ByteArray) : (encV K N S).length ≤ 12 + S.size := by
  have h1 := encN_length K
  have h2 := encN_length N
  have h3 := encT_length S
  unfold encV
  split <;> simp <;> omega
theorem encV_pos (K N : Int) (S : ByteArray) : 0 < (encV K N S).length := by
  have h1 := encN_pos K
  unfold encV
  simp; omega
end Go.Proofs.YtofdbnkeddcdjaaDoor
/-
  Plainly: what is read as a number, a text or a value has just the bytes that are put for it.
-/
namespace Go.Proofs.YtofdbnkeddcdjaaDoor
open Go.RowKit
set_option linter.unusedVariables false

theorem accN_shift (bs : List UInt8) (A : Nat) : ∀ k, accN bs A (k + 1) = (byteAt bs A).toNat % 128 + 128 * accN bs (A + 1) k
  | 0 => by simp [accN]
  | k + 1 => by
    have ih := accN_shift bs A k
    show accN bs A (k + 1) + (byteAt bs (A + (k + 1))).toNat % 128 * 128 ^ (k + 1) = _
    rw [ih]
    show _ = (byteAt bs A).toNat % 128 + 128 * (accN bs (A + 1) k + (byteAt bs (A + 1 + k)).toNat % 128 * 128 ^ k)
    rw [show A + (k + 1) = A + 1 + k by omega, Nat.pow_succ, Nat.mul_add, Nat.add_assoc]
    congr 2
    rw [Nat.mul_comm (128 ^ k) 128, ← Nat.mul_assoc, ← Nat.mul_assoc, Nat.mul_comm _ 128]
theorem byteAt_get {bs : List UInt8} {i : Nat} (h : i < bs.length) : byteAt bs i = ((bs[i]).toNat : Int) := by unfold byteAt; simp [List.getD, h]
theorem scanN_is {bs : List UInt8} {A k : Nat} : ∀ {f k0 : Nat}, scanN bs A f k0 = some k → k0 ≤ k ∧ k < k0 + f ∧ (∀ j, k0 ≤ j → j < k → 128 ≤ byteAt bs (A + j)) ∧ byteAt bs (A + k) < 128 ∧ A + k < bs.length
  | 0, k0, h => by cases h
  | f + 1, k0, h => by
    unfold scanN at h
    split at h
    · rename_i h1
      split at h
      · rename_i h2
        simp only [Option.some.injEq] at h
        subst h
        exact ⟨Nat.le_refl _, by omega, fun j hj hj2 => by omega, h2, h1⟩
      · rename_i h2
        obtain ⟨a1, a2, a3, a4, a5⟩ := scanN_is h
        refine ⟨by omega, by omega, fun j hj hj2 => ?_, a4, a5⟩
        by_cases e : j = k0
        · rw [e]; omega
        · exact a3 j (by omega) hj2
    · cases h
theorem accN_pos {bs : List UInt8} {A k : Nat} (h1 : byteAt bs (A + k) < 128) (h2 : byteAt bs (A + k) ≠ 0) (h3 : A + k < bs.length) : 1 ≤ accN bs A (k + 1) := by
  have e0 : accN bs A (k + 1) = accN bs A k + (byteAt bs (A + k)).toNat % 128 * 128 ^ k := rfl
  have e : 1 ≤ (byteAt bs (A + k)).toNat % 128 := by
    rw [byteAt_get h3] at h1 h2 ⊢
    omega
  have hp : 1 ≤ 128 ^ k := Nat.pow_pos (by omega)
  have := Nat.mul_le_mul e hp
  rw [e0]
  omega
/-- the groups that were read are the groups that are put -/
theorem canonG {bs : List UInt8} (k : Nat) : ∀ (f A : Nat), k ≤ f → (∀ j, j < k → 128 ≤ byteAt bs (A + j)) → byteAt bs (A + k) < 128 → A + k < bs.length → (k = 0 ∨ byteAt bs (A + k) ≠ 0) → encG f (accN bs A (k + 1)) = (bs.drop A).take (k + 1) := by
  induction k with
  | zero =>
    intro f A hf hb hl hA hz
    have hA0 : A < bs.length := by simpa using hA
    rw [Nat.add_zero, byteAt_get hA0] at hl
    have e : accN bs A (0 + 1) = (bs[A]).toNat := by
      rw [accN_shift, byteAt_get hA0]
      show ((bs[A]).toNat : Int).toNat % 128 + 128 * 0 = _
      omega
    rw [e, encG_small (by omega), List.drop_eq_getElem_cons hA0, List.take_succ_cons, List.take_zero, UInt8.ofNat_toNat]
  | succ k ih =>
    intro f A hf hb hl hA hz
    obtain ⟨g, rfl⟩ : ∃ g, f = g + 1 := ⟨f - 1, by omega⟩
    have hA0 : A < bs.length := by omega
    have hne : byteAt bs (A + (k + 1)) ≠ 0 := by rcases hz with h | h; omega; exact h
    have e1 : A + (k + 1) = A + 1 + k := by omega
    rw [e1] at hl hA hne
    have hpos := accN_pos hl hne hA
    have ih2 := ih g (A + 1) (by omega) (fun j hj => by have := hb (j + 1) (by omega); rw [show A + 1 + j = A + (j + 1) by omega]; exact this) hl hA (.inr hne)
    have hb0 := hb 0 (by omega)
    rw [Nat.add_zero, byteAt_get hA0] at hb0
    have hlt : (bs[A]).toNat < 256 := (bs[A]).toNat_lt
    obtain ⟨M, hM⟩ : ∃ M, accN bs (A + 1) (k + 1) = M := ⟨_, rfl⟩
    rw [accN_shift, byteAt_get hA0, hM]
    rw [hM] at hpos ih2
    rw [encG_big (by omega)]
    have m1 : (((bs[A]).toNat : Int).toNat % 128 + 128 * M) % 128 + 128 = (bs[A]).toNat := by omega
    have m2 : (((bs[A]).toNat : Int).toNat % 128 + 128 * M) / 128 = M := by omega
    rw [m1, m2, ih2, List.drop_eq_getElem_cons hA0, List.take_succ_cons, UInt8.ofNat_toNat]
theorem fold_unf {m : Nat} (h : m ≤ 2000000000) : foldN (clampN (unfN m)) = m := by
  have hc : clampN (unfN m) = unfN m := by unfold clampN unfN; split <;> split <;> (try split) <;> omega
  rw [hc]
  unfold foldN unfN
  split <;> split <;> omega

/-- the bytes from one place to another -/
def seg (bs : List UInt8) (A B : Nat) : List UInt8 := (bs.drop A).take (B - A)
theorem seg_join {bs : List UInt8} {A B C : Nat} (h1 : A ≤ B) (h2 : B ≤ C) : seg bs A B ++ seg bs B C = seg bs A C := by
  unfold seg
  rw [show C - A = (B - A) + (C - B) by omega, List.take_add, List.drop_drop, show A + (B - A) = B by omega]
theorem seg_length {bs : List UInt8} {A B : Nat} (h : B ≤ bs.length) (hAB : A ≤ B) : (seg bs A B).length = B - A := by unfold seg; simp; omega
theorem num_canon {bs : List UInt8} {x n q : Int} (h : numR bs x = (n, q, true)) : ∃ A B : Nat, x = A ∧ q = B ∧ A ≤ B ∧ B ≤ bs.length ∧ seg bs A B = encN n := by
  by_cases h0 : x < 0
  · rw [numR_neg h0] at h; simp at h
  · obtain ⟨A, rfl⟩ := Int.eq_ofNat_of_zero_le (show 0 ≤ x by omega)
    cases hs : scanN bs A 5 0 with
    | none => rw [numR_none hs] at h; simp at h
    | some k =>
      rw [numR_some hs] at h
      split at h
      · simp at h
      · rename_i hc
        simp only [Prod.mk.injEq, and_true] at h
        obtain ⟨-, hk, hb, hl, hA⟩ := scanN_is hs
        have hz : k = 0 ∨ byteAt bs (A + k) ≠ 0 := by
          by_cases e : k = 0
          · exact .inl e
          · right; intro e2; exact hc (.inl ⟨e, e2⟩)
        have hm : accN bs A (k + 1) ≤ 2000000000 := by
          by_cases e : accN bs A (k + 1) ≤ 2000000000
          · exact e
          · exact absurd (.inr (by omega)) hc
        refine ⟨A, A + k + 1, rfl, by rw [← h.2]; omega, by omega, by omega, ?_⟩
        have := canonG (bs := bs) k 5 A (by omega) (fun j hj => hb j (Nat.zero_le _) hj) hl hA hz
        unfold seg encN
        rw [← h.1, fold_unf hm, this, show A + k + 1 - A = k + 1 by omega]
theorem text_canon {bs : List UInt8} {x q : Int} {s : ByteArray} (h : textR bs x = (s, q, true)) : ∃ A B : Nat, x = A ∧ q = B ∧ A ≤ B ∧ B ≤ bs.length ∧ seg bs A B = encT s := by
  unfold textR at h
  split at h
  · simp at h
  · rename_i hc
    obtain ⟨n, p, b, hn⟩ : ∃ n p b, numR bs x = (n, p, b) := ⟨_, _, _, rfl⟩
    rw [hn] at hc h
    simp only [not_or, Bool.not_eq_false] at hc
    obtain ⟨rfl, h1, h2⟩ := hc
    obtain ⟨A, P, rfl, rfl, hAP, hPl, he⟩ := num_canon hn
    obtain ⟨N, rfl⟩ := Int.eq_ofNat_of_zero_le (show 0 ≤ n by omega)
    simp only [Prod.mk.injEq, and_true, Int.toNat_natCast] at h
    obtain ⟨hs, hq⟩ := h
    refine ⟨A, P + N, rfl, by rw [← hq]; omega, by omega, by omega, ?_⟩
    have hsl : s.data.toList = seg bs P (P + N) := by rw [← hs]; unfold seg; rw [show P + N - P = N by omega]
    have hsz : s.size = N := by
      have e : s.data.toList.length = s.size := by rw [Array.length_toList]; rfl
      rw [← e, hsl, seg_length (by omega) (by omega)]; omega
    unfold encT
    rw [hsz, hsl, ← he, seg_join hAP (by omega)]
theorem val_canon {bs : List UInt8} {x K N q : Int} {S : ByteArray} (h : valR bs x = (K, N, S, q, true)) : valB K N S = true ∧ ∃ A B : Nat, x = A ∧ q = B ∧ A ≤ B ∧ B ≤ bs.length ∧ seg bs A B = encV K N S := by
  obtain ⟨k, p, b, hn⟩ : ∃ k p b, numR bs x = (k, p, b) := ⟨_, _, _, rfl⟩
  cases b
  · rw [valR_no (by rw [hn])] at h; simp at h
  · obtain ⟨A, P, rfl, rfl, hAP, hPl, he⟩ := num_canon hn
    by_cases hk : k = 1
    · subst hk
      obtain ⟨m, r, c, h2⟩ : ∃ m r c, numR bs (P : Int) = (m, r, c) := ⟨_, _, _, rfl⟩
      rw [valR_num hn h2] at h
      split at h
      · rename_i hc
        rw [Bool.and_eq_true] at hc
        obtain ⟨rfl, hv⟩ := hc
        simp only [Prod.mk.injEq, and_true] at h
        obtain ⟨rfl, rfl, rfl, rfl⟩ := h
        obtain ⟨P', B, e1, rfl, hPB, hB, he2⟩ := num_canon h2
        obtain rfl : P = P' := by omega
        exact ⟨hv, A, B, rfl, rfl, by omega, hB, by rw [encV_num, ← he, ← he2, seg_join hAP hPB]⟩
      · simp at h
    · obtain ⟨s, r, c, h2⟩ : ∃ s r c, textR bs (P : Int) = (s, r, c) := ⟨_, _, _, rfl⟩
      rw [valR_text hn hk h2] at h
      split at h
      · rename_i hc
        rw [Bool.and_eq_true] at hc
        obtain ⟨rfl, hv⟩ := hc
        simp only [Prod.mk.injEq, and_true] at h
        obtain ⟨rfl, rfl, rfl, rfl⟩ := h
        obtain ⟨P', B, e1, rfl, hPB, hB, he2⟩ := text_canon h2
        obtain rfl : P = P' := by omega
        exact ⟨hv, A, B, rfl, rfl, by omega, hB, by rw [encV_text _ _ hk, ← he, ← he2, seg_join hAP hPB]⟩
      · simp at h
end Go.Proofs.YtofdbnkeddcdjaaDoor
/-
  The contracts of the draws' cursor: what stands in its block, and what each step answers (a number within its bounds); no step touches another block that was there.
-/
namespace Go.Proofs.YtofdbnkeddcdjaaDoor
open Go.RowKit
set_option linter.unusedVariables false

theorem i64_and255 (n : Int) : bits .and .i64 n 255 = n % 256 := by
  have h255 : (BitVec.ofInt 64 255).toNat = 2 ^ 8 - 1 := by decide
  have key : (BitVec.ofInt 64 n &&& BitVec.ofInt 64 255).toNat = (n % ((2 ^ 64 : Nat) : Int)).toNat % 2 ^ 8 := by
    rw [BitVec.toNat_and, BitVec.toNat_ofInt, h255, Nat.and_two_pow_sub_one_eq_mod]
  show IntKind.i64.wrap ((BitVec.ofInt 64 n &&& BitVec.ofInt 64 255).toNat : Nat) = n % 256
  rw [key, IntKind.wrap_i64]
  omega

/-- the slice at 'a' reads as bs, below block B -/
def RdB (B : Nat) (w : World) (a : Option Addr) (bs : List UInt8) : Prop :=
  ∀ i, i < bs.length → ∃ b off, a = some ⟨b, off, none⟩ ∧ b < B ∧ w.cell? ⟨b, off + i, none⟩ = some (.int .u8 (byteAt bs i))
theorem RdB.below {B : Nat} {w w' : World} {a : Option Addr} {bs : List UInt8} (h : RdB B w a bs) (hb : Below B w w') : RdB B w' a bs := by
  intro i hi
  obtain ⟨b, off, e, hl, hc⟩ := h i hi
  exact ⟨b, off, e, hl, by rw [hb.cell (p := ⟨b, off + i, none⟩) hl]; exact hc⟩
theorem Rd.toB {w : World} {a : Option Addr} {bs : List UInt8} (h : Rd w a bs) : RdB w.heap.size w a bs := by
  intro i hi
  obtain ⟨b, off, e, hc⟩ := h i hi
  exact ⟨b, off, e, World.block_lt_of_cell? w _ hc, hc⟩
theorem RdB.toRd {B : Nat} {w : World} {a : Option Addr} {bs : List UInt8} (h : RdB B w a bs) : Rd w a bs := by
  intro i hi
  obtain ⟨b, off, e, hl, hc⟩ := h i hi
  exact ⟨b, off, e, hc⟩

/-- block q holds a cursor over bytes below B -/
def Cur (B : Nat) (w : World) (q : Nat) : Prop := B ≤ q ∧ ∃ (a : Option Addr) (cap : Nat) (code : List UInt8) (i : Nat) (h : Int),
  code.length ≤ 1048576 ∧ i ≤ code.length ∧ RdB B w a code ∧ w.heap[q]? = some (.cells #[.slice a code.length cap, .int .i64 (i : Int), .int .i64 h] 64 (0, 0))

theorem Cur.lt {B q : Nat} {w : World} (h : Cur B w q) : q < w.heap.size := by
  obtain ⟨_, a, cap, code, i, hh, _, _, _, hg⟩ := h
  exact (Array.getElem?_eq_some_iff.1 hg).1
theorem Cur.keep {B q : Nat} {w w' : World} {row : Option Nat} (h : Cur B w q) (hg : w.grownBy w' row) (hr : row ≠ some q) (hB : ∀ k, row = some k → B ≤ k) : Cur B w' q := by
  have hlt := h.lt
  obtain ⟨hb, a, cap, code, i, hh, h1, h2, h3, h4⟩ := h
  refine ⟨hb, a, cap, code, i, hh, h1, h2, h3.below ((Below.refl _ _).grown hg (by omega) hB), ?_⟩
  rw [hg.block q hlt (fun e => hr e.symm)]; exact h4

theorem struct_cell {w : World} {q : Nat} {c0 c1 c2 : Value} {T : TypeId} (h : w.heap[q]? = some (.cells #[c0, c1, c2] T (0, 0))) :
    w.cell? ⟨q, 0, none⟩ = some c0 ∧ w.cell? ⟨q, 1, none⟩ = some c1 ∧ w.cell? ⟨q, 2, none⟩ = some c2 ∧ (∀ j, w.frozen? ⟨q, j, none⟩ = false) := by
  refine ⟨?_, ?_, ?_, ?_⟩
  · rw [cell_of_row w q 0 _ T (0, 0) h]; rfl
  · rw [cell_of_row w q 1 _ T (0, 0) h]; rfl
  · rw [cell_of_row w q 2 _ T (0, 0) h]; rfl
  · intro j; exact frozen_of_row w q j _ T h

theorem struct_set2 {w : World} {q : Nat} {c0 c1 c2 : Value} {T : TypeId} (h : w.heap[q]? = some (.cells #[c0, c1, c2] T (0, 0))) (u : Value) :
    (w.setCell ⟨q, 2, none⟩ u).heap[q]? = some (.cells #[c0, c1, u] T (0, 0)) ∧ w.grownBy (w.setCell ⟨q, 2, none⟩ u) (some q) := by
  refine ⟨?_, ⟨rfl, rfl, rfl, by simp [World.setCell], fun k _ hk => heap_setCell_other w ⟨q, 2, none⟩ k u (fun e => hk (by simp [e]))⟩⟩
  rw [heap_setCell_same w q 2 _ T u h]; rfl
theorem struct_set1 {w : World} {q : Nat} {c0 c1 c2 : Value} {T : TypeId} (h : w.heap[q]? = some (.cells #[c0, c1, c2] T (0, 0))) (u : Value) :
    (w.setCell ⟨q, 1, none⟩ u).heap[q]? = some (.cells #[c0, u, c2] T (0, 0)) ∧ w.grownBy (w.setCell ⟨q, 1, none⟩ u) (some q) := by
  refine ⟨?_, ⟨rfl, rfl, rfl, by simp [World.setCell], fun k _ hk => heap_setCell_other w ⟨q, 1, none⟩ k u (fun e => hk (by simp [e]))⟩⟩
  rw [heap_setCell_same w q 1 _ T u h]; rfl
theorem grown_trans {a b c : World} {row : Option Nat} (h : a.grownBy b row) (k : b.grownBy c row) : a.grownBy c row :=
  ⟨k.os.trans h.os, k.tape.trans h.tape, k.output.trans h.output, Nat.le_trans h.size k.size, fun i hi hne => (k.block i (Nat.lt_of_lt_of_le hi h.size) hne).trans (h.block i hi hne)⟩
theorem grown_drewN {w w' : World} {row : Option Nat} (h : w.grownBy w' row) (n : Nat) : w.grownBy (w'.drewN n) row := ⟨h.os, h.tape, h.output, h.size, h.block⟩

theorem cur_step {B q cap i : Nat} {w1 : World} {a : Option Addr} {code : List UInt8} {H : Int} (hb : B ≤ q) (hl : code.length ≤ 1048576) (hi : i < code.length) (hr : RdB B w1 a code)
    (hg : w1.heap[q]? = some (.cells #[.slice a code.length cap, .int .i64 (i : Int), .int .i64 H] 64 (0, 0))) (n : Nat) :
    Cur B ((w1.drewN n).setCell ⟨q, 1, none⟩ (.int .i64 ((i : Int) + 1))) q ∧ w1.grownBy ((w1.drewN n).setCell ⟨q, 1, none⟩ (.int .i64 ((i : Int) + 1))) (some q) := by
  obtain ⟨hg2, gr2⟩ := struct_set1 (w := w1.drewN n) hg (.int .i64 ((i : Int) + 1))
  have gr3 : w1.grownBy ((w1.drewN n).setCell ⟨q, 1, none⟩ (.int .i64 ((i : Int) + 1))) (some q) := ⟨gr2.os, gr2.tape, gr2.output, gr2.size, gr2.block⟩
  have hq := (Array.getElem?_eq_some_iff.1 hg).1
  refine ⟨⟨hb, a, cap, code, i + 1, H, hl, hi, hr.below ((Below.refl B w1).grown gr3 (by omega) (fun k hk => by cases hk; exact hb)), ?_⟩, gr3⟩
  rw [hg2]; rfl
theorem cur_stay {B q cap i : Nat} {w1 : World} {a : Option Addr} {code : List UInt8} {H : Int} (hb : B ≤ q) (hl : code.length ≤ 1048576) (hi : i ≤ code.length) (hr : RdB B w1 a code)
    (hg : w1.heap[q]? = some (.cells #[.slice a code.length cap, .int .i64 (i : Int), .int .i64 H] 64 (0, 0))) (n m : Nat) :
    Cur B ((w1.drewN n).drewN m) q ∧ w1.grownBy ((w1.drewN n).drewN m) (some q) :=
  ⟨⟨hb, a, cap, code, i, H, hl, hi, hr.below ⟨rfl, rfl, rfl, Nat.le_refl _, fun _ _ => rfl⟩, hg⟩, ⟨rfl, rfl, rfl, Nat.le_refl _, fun _ _ _ => rfl⟩⟩

set_option maxHeartbeats 1600000 in
theorem l1Byte_any (B q : Nat) (w : World) (hc : Cur B w q) :
    Calls Tryd.prog 53 #[.pointer (some ⟨q, 0, none⟩)] w fun e w' => ∃ x : Int, e = .returned (.int .i64 x) ∧ 0 ≤ x ∧ x ≤ 255 ∧ Cur B w' q ∧ w.grownBy w' (some q) := by
  obtain ⟨hb, a, cap, code, i, h, hl, hi, hr, hg⟩ := hc
  have HG := hide hg
  obtain ⟨c0, c1, c2, cf⟩ := struct_cell hg
  have f2 := cf 2
  clear cf hg
  have h255 := i64_and255
  go_enter Tryd.func53, Tryd.ntmps53
  go_wp2
  generalize wrap64 (h * 6364136223846793005) = H1
  generalize wrap64 (H1 + 1442695040888963407) = H
  obtain ⟨hg1, gr1⟩ := struct_set2 HG.out (.int .i64 H)
  have HR := hide (hr.below ((Below.refl B w).grown gr1 (by have := (Array.getElem?_eq_some_iff.1 HG.out).1; omega) (fun k hk => by cases hk; exact hb)))
  have HG1 := hide hg1
  have HR1 := hide gr1
  clear c0 c1 c2 f2 hr gr1 HG
  generalize w.setCell ⟨q, 2, none⟩ (.int .i64 H) = w1 at hg1 HR HG1 HR1 ⊢
  obtain ⟨c0, c1, c2, cf⟩ := struct_cell hg1
  have f1 := cf 1
  clear cf hg1
  go_quiet (fail)
  go_wp2
  have hx0 := Int.emod_nonneg (bits BinOp.xor IntKind.i64 (H / 8589934592) (H / 140737488355328)) (show (256 : Int) ≠ 0 by omega)
  have hx1 := Int.emod_lt_of_pos (bits BinOp.xor IntKind.i64 (H / 8589934592) (H / 140737488355328)) (show (0 : Int) < 256 by omega)
  generalize bits BinOp.xor IntKind.i64 (H / 8589934592) (H / 140737488355328) % 256 = x at hx0 hx1 ⊢
  by_cases hlt : i < code.length
  · obtain ⟨b, off, hab, hbB, hcell⟩ := HR.out i hlt
    have hi2 : (i : Int) < (code.length : Int) := by omega
    have y1 := byteAt_lo code i
    have y2 := byteAt_hi code i
    generalize byteAt code i = y at hcell y1 y2
    subst hab
    go_quiet (fail)
    go_wp2
    go_quiet (fail)
    go_wp2
    go_ret
    have CS := cur_step hb hl hlt HR.out HG1.out
    exact ⟨_, rfl, by omega, by omega, (CS _).1, grown_trans HR1.out (CS _).2⟩
  · go_quiet (fail)
    go_wp2
    go_ret
    have CS := cur_stay hb hl hi HR.out HG1.out
    exact ⟨_, rfl, by omega, by omega, (CS _ _).1, grown_trans HR1.out (CS _ _).2⟩

set_option maxHeartbeats 1600000 in
theorem l1Below_any (B q : Nat) (n : Int) (w : World) (hc : Cur B w q) (hn : 0 < n) (hn2 : n ≤ 1000000) :
    Calls Tryd.prog 36 #[.pointer (some ⟨q, 0, none⟩), .int .i64 n] w fun e w' => ∃ x : Int, e = .returned (.int .i64 x) ∧ 0 ≤ x ∧ x < n ∧ Cur B w' q ∧ w.grownBy w' (some q) := by
  by_cases hs : n ≤ 256
  · go_enter Tryd.func36, Tryd.ntmps36
    go_wp2_with fail
    refine (l1Byte_any B q w hc).mono ?_
    rintro e w1 ⟨x, rfl, x0, x1, c1, g1⟩
    go_wp2
    go_ret
    exact ⟨_, rfl, Int.emod_nonneg _ (by omega), Int.emod_lt_of_pos _ hn, c1, g1⟩
  · go_enter Tryd.func36, Tryd.ntmps36
    go_wp2_with fail
    refine (l1Byte_any B q w hc).mono ?_
    rintro e w1 ⟨x, rfl, x0, x1, c1, g1⟩
    go_wp2_with fail
    refine (l1Byte_any B q w1 c1).mono ?_
    rintro e w2 ⟨y, rfl, y0, y1, c2, g2⟩
    go_wp2_with fail
    refine (l1Byte_any B q w2 c2).mono ?_
    rintro e w3 ⟨z, rfl, z0, z1, c3, g3⟩
    go_wp2
    go_ret
    exact ⟨_, rfl, Int.emod_nonneg _ (by omega), Int.emod_lt_of_pos _ hn, c3, grown_trans (grown_trans g1 g2) g3⟩

set_option maxHeartbeats 1600000 in
theorem l1Int_any (B q l : Nat) (zs : List Int) (cap : Nat) (w : World) (hc : Cur B w q) (hn : 0 < zs.length) (hn2 : zs.length ≤ 1000) (hq : l ≠ q)
    (hz : ∀ k, k < zs.length → w.cell? ⟨l, k, none⟩ = some (.int .i64 (zs.getD k 0))) :
    Calls Tryd.prog 37 #[.pointer (some ⟨q, 0, none⟩), .slice (some ⟨l, 0, none⟩) zs.length cap] w fun e w' => ∃ x : Int, e = .returned (.int .i64 x) ∧ x ∈ zs ∧ Cur B w' q ∧ w.grownBy w' (some q) := by
  obtain ⟨n, hN⟩ : ∃ n, n = zs.length := ⟨_, rfl⟩
  rw [← hN] at hn hn2 hz ⊢
  have HZ := hide hz
  have HN := hide hN
  clear hz hN
  go_enter Tryd.func37, Tryd.ntmps37
  go_wp2_with fail
  refine (l1Below_any B q n w hc (by omega) (by omega)).mono ?_
  rintro e w1 ⟨x, rfl, x0, x1, c1, g1⟩
  obtain ⟨k, rfl⟩ := Int.eq_ofNat_of_zero_le x0
  have hk : k < n := by omega
  have h1 : w1.cell? ⟨l, k, none⟩ = some (.int .i64 (zs.getD k 0)) := g1.cell (HZ.out k hk) (by simp; exact hq)
  have HM : Hid (zs.getD k 0 ∈ zs) := by
    have hk2 : k < zs.length := by rw [← HN.out]; exact hk
    unfold Hid
    simp [List.getD, hk2]
  generalize zs.getD k 0 = z at h1 HM
  go_wp2
  go_ret
  exact ⟨_, rfl, HM.out, c1, g1⟩
end Go.Proofs.YtofdbnkeddcdjaaDoor
/-
  The contracts of the draws of bytes: a new cursor; some bytes drawn into a row of the call's own.
-/
namespace Go.Proofs.YtofdbnkeddcdjaaDoor
open Go.RowKit
set_option linter.unusedVariables false

theorem grown_more {a b c : World} {q : Option Nat} {row : Option Nat} (h : a.grownBy b q) (k : b.grownBy c row) (hr : ∀ j, row = some j → a.heap.size ≤ j) : a.grownBy c q :=
  ⟨k.os.trans h.os, k.tape.trans h.tape, k.output.trans h.output, Nat.le_trans h.size k.size,
    fun i hi hne => (k.block i (Nat.lt_of_lt_of_le hi h.size) (fun e => by have := hr i e.symm; omega)).trans (h.block i hi hne)⟩

theorem owns_base {w : World} {base base' n size : Nat} {e : TypeId} {v : Value} {xs : List Value} (h : w.ownsRow base e size v n xs) (hb : base' ≤ base) : w.ownsRow base' e size v n xs := by
  refine ⟨h.1, ?_⟩
  rcases h.2 with h2 | ⟨g, cap, cur, h1, hb', rest⟩
  · exact .inl h2
  · exact .inr ⟨g, cap, cur, h1, by omega, rest⟩

set_option maxRecDepth 100000 in
set_option maxHeartbeats 1600000 in
theorem l1New_any (B : Nat) (a : Option Addr) (cap : Nat) (code : List UInt8) (w : World) (hr : RdB B w a code) (hn : code.length ≤ 1048576) (hB : B ≤ w.heap.size) :
    Calls Tryd.prog 18 #[.slice a code.length cap] w fun e w' => e = .returned (.pointer (some ⟨w.heap.size, 0, none⟩)) ∧ Cur B w' w.heap.size ∧ w.grownBy w' none := by
  obtain ⟨n, hN⟩ : ∃ n, n = code.length := ⟨_, rfl⟩
  rw [← hN] at hn ⊢
  have HN := hide hN
  clear hN
  go_enter Tryd.func18, Tryd.ntmps18
  go_wp2
  go_loop [3, 4] (fun h i => ∃ (k : Nat) (x : Int), k ≤ n ∧ i = .int .i64 k ∧ h = .int .i64 x) (fun _ i => n - (intOf i).toNat)
  case atStart => exact ⟨0, _, Nat.zero_le _, rfl, rfl⟩
  case round =>
    obtain ⟨k, x, hk, rfl, rfl⟩ := hrel
    by_cases hlt : k < n ∧ k < 4000
    · obtain ⟨h1, h2⟩ := hlt
      obtain ⟨b, off, hab, hbB, hcell⟩ := hr k (by rw [← HN.out]; exact h1)
      have y1 := byteAt_lo code k
      have y2 := byteAt_hi code k
      generalize byteAt code k = y at hcell y1 y2
      subst hab
      go_wp2
      go_round
      case rel => exact ⟨k + 1, _, by omega, by go_num, rfl⟩
      case measure => simp [intOf]; omega
    · by_cases h1 : k < n
      all_goals
        go_wp2
        go_ret
        refine ⟨rfl, ⟨hB, a, cap, code, 0, x, by rw [← HN.out]; exact hn, Nat.zero_le _, hr.below ((Below.refl _ _).alloc hB _), ?_⟩, World.grownBy_alloc _ _ _⟩
        rw [heap_alloc_new, ← HN.out]; rfl

set_option maxRecDepth 100000 in
set_option maxHeartbeats 1600000 in
theorem l1Bytes_any (B q n : Nat) (w : World) (hc : Cur B w q) (hn : n ≤ 1000) :
    Calls Tryd.prog 41 #[.pointer (some ⟨q, 0, none⟩), .int .i64 (n : Int)] w fun e w' =>
      ∃ v bs, e = .returned v ∧ bs.length = n ∧ w'.ownsRow w.heap.size 5 1 v n (vals bs) ∧ v ≠ .slice none 0 0 ∧ Cur B w' q ∧ w.grownBy w' (some q) := by
  obtain ⟨i0, hi, hz0, hz1, hz2⟩ := info_parts Tryd.info5
  have hB : B ≤ q := hc.1
  have hq := hc.lt
  go_enter Tryd.func41, Tryd.ntmps41
  go_wp2
  go_loopw [5, 6] (fun out i wr => ∃ (k : Nat) (bs : List UInt8), k ≤ n ∧ i = .int .i64 k ∧ bs.length = k ∧ wr.ownsRow w.heap.size 5 1 out k (vals bs) ∧ out ≠ .slice none 0 0 ∧ Cur B wr q ∧ w.grownBy wr (some q)) (fun _ i _ => n - (intOf i).toNat)
  case atStart =>
    exact ⟨0, [], Nat.zero_le _, rfl, rfl, World.ownsRow_made w #[] 0 (Nat.le_refl _) (Nat.zero_le _) rfl, by simp, hc.keep (World.grownBy_alloc w _ none) (by simp) (by simp), World.grownBy_alloc w _ _⟩
  case round =>
    obtain ⟨k, bs, hk, rfl, hbl, hown, hnn, hcu, hgr⟩ := hrel
    have HB := hide hbl
    have HNN := hide hnn
    clear hbl hnn
    by_cases hlt : k < n
    · go_wp2_with fail
      refine (l1Byte_any B q wr hcu).mono ?_
      rintro e w1 ⟨x, rfl, x0, x1, c1, g1⟩
      have hown1 := hown.kept g1 (by
        cases hv : Value.ownBlock _ with
        | none => exact .inl rfl
        | some g => right; intro e; have := (hown.lt g hv).1; cases e; omega)
      go_wp2_with (at_builtin; refine wpList_append_own _ rfl (.tmp 13) (.tmp 17) 22 rfl w.heap.size 5 i0 (.int .u8 0) 1 1 Tryd.underlying22 hi hz0 hz1 hz2 rfl (by decide) _ _ _ rfl (hown1.alloc _) ⟨w1.heap.size, 0, none⟩ 1 1 [.int .u8 x] rfl rfl (one_cell _ _ _) (by intro u hu; simp at hu; subst hu; rfl) (by unfold maxLen; omega) (by omega) (by have := hgr.size; have := g1.size; simp; omega) ?_)
      intro v2 w2 hown2 hgrow2 hnil
      have HV : Hid (vals bs ++ [Value.int .u8 x] = vals (bs ++ [UInt8.ofNat x.toNat])) := by
        unfold Hid; simp [vals]; omega
      rw [HV.out] at hown2
      have gA : w.grownBy w2 (some q) := grown_more (grown_more (grown_trans hgr g1) (World.grownBy_alloc _ _ none) (by simp)) hgrow2 (fun j hj => (hown.lt j hj).1)
      have cA : Cur B w2 q := (c1.keep (World.grownBy_alloc _ _ none) (by simp) (by simp)).keep hgrow2 (fun e => by have := (hown.lt q e).1; omega) (fun j hj => by have := (hown.lt j hj).1; omega)
      have HNil : Hid (v2 ≠ .slice none 0 0) := hnil
      clear hgrow2 hown hown1 hgr g1 hcu c1 hnil
      go_wp2
      go_roundw
      case rel => exact ⟨k + 1, bs ++ [UInt8.ofNat x.toNat], by omega, by go_num, by simp [HB.out], hown2, HNil.out, cA, gA⟩
      case measure => simp [intOf]; omega
    · have hkn : k = n := by omega
      subst hkn
      go_wp2
      go_ret
      exact ⟨_, bs, rfl, HB.out, hown, HNN.out, hcu, hgr⟩

theorem cells_lit (w : World) (T : TypeId) (zs : List Int) : ∀ k, k < zs.length → (w.alloc (.cells (zs.map (Value.int .i64)).toArray T)).cell? ⟨w.heap.size, k, none⟩ = some (.int .i64 (zs.getD k 0)) := by
  intro k hk
  rw [cell_of_row _ w.heap.size k _ T (0, 0) (heap_alloc_new w _)]
  simp [List.getD, hk]

set_option maxRecDepth 100000 in
set_option maxHeartbeats 1600000 in
theorem l1Some_any (B q : Nat) (w : World) (hc : Cur B w q) :
    Calls Tryd.prog 19 #[.pointer (some ⟨q, 0, none⟩)] w fun e w' =>
      ∃ v bs, e = .returned v ∧ bs.length ≤ 9 ∧ w'.ownsRow w.heap.size 5 1 v bs.length (vals bs) ∧ v ≠ .slice none 0 0 ∧ Cur B w' q ∧ w.grownBy w' (some q) := by
  have hq := hc.lt
  go_enter Tryd.func19, Tryd.ntmps19
  go_wp2_with fail
  refine (l1Int_any B q w.heap.size [0, 1, 2, 5, 9] 5 _ (hc.keep (World.grownBy_alloc w _ none) (by simp) (by simp)) (by decide) (by decide) (by omega) (cells_lit w 3 [0, 1, 2, 5, 9])).mono ?_
  rintro e w1 ⟨x, rfl, hx, c1, g1⟩
  obtain ⟨n, rfl⟩ : ∃ n : Nat, x = (n : Int) := by
    apply Int.eq_ofNat_of_zero_le
    simp at hx; omega
  have hn : n ≤ 9 := by simp at hx; omega
  clear hx
  go_wp2_with fail
  refine (l1Bytes_any B q n w1 c1 (by omega)).mono ?_
  rintro e w2 ⟨v, bs, rfl, hl, ho, hv, c2, g2⟩
  have gA : w.grownBy w2 (some q) := grown_trans (grown_more (World.grownBy.refl w _) (World.grownBy_alloc w _ none) (by simp)) (grown_trans g1 g2)
  have HO : Hid (w2.ownsRow w.heap.size 5 1 v bs.length (vals bs)) := by
    unfold Hid
    rw [hl]
    refine ⟨ho.1, ?_⟩
    rcases ho.2 with h2 | ⟨g, cap, cur, h1, hb, rest⟩
    · exact .inl h2
    · exact .inr ⟨g, cap, cur, h1, by have := g1.size; simp at this; omega, rest⟩
  have HV := hide hv
  have HL := hide hl
  clear hv hl ho c1 g1 g2
  go_wp2
  go_ret
  exact ⟨_, bs, rfl, by rw [HL.out]; exact hn, HO.out, HV.out, c2, gA⟩
end Go.Proofs.YtofdbnkeddcdjaaDoor
/-
  A block of three cells (a value in memory): what it reads as, what a store of all three leaves.
-/
namespace Go.Proofs.YtofdbnkeddcdjaaDoor
open Go.RowKit
set_option linter.unusedVariables false

theorem box_cell {w : World} {q : Nat} {c0 c1 c2 : Value} {T : TypeId} (h : w.heap[q]? = some (.cells #[c0, c1, c2] T (0, 0))) :
    w.cell? ⟨q, 0, none⟩ = some c0 ∧ w.cell? ⟨q, 1, none⟩ = some c1 ∧ w.cell? ⟨q, 2, none⟩ = some c2 ∧ w.frozen? ⟨q, 0, none⟩ = false ∧ w.frozen? ⟨q, 1, none⟩ = false ∧ w.frozen? ⟨q, 2, none⟩ = false := by
  refine ⟨?_, ?_, ?_, frozen_of_row w q 0 _ T h, frozen_of_row w q 1 _ T h, frozen_of_row w q 2 _ T h⟩
  · rw [cell_of_row w q 0 _ T (0, 0) h]; rfl
  · rw [cell_of_row w q 1 _ T (0, 0) h]; rfl
  · rw [cell_of_row w q 2 _ T (0, 0) h]; rfl
theorem box_set3 {w : World} {q : Nat} {c0 c1 c2 : Value} {T : TypeId} (h : w.heap[q]? = some (.cells #[c0, c1, c2] T (0, 0))) (a b c : Value) :
    (((w.setCell ⟨q, 0, none⟩ a).setCell ⟨q, 1, none⟩ b).setCell ⟨q, 2, none⟩ c).heap[q]? = some (.cells #[a, b, c] T (0, 0)) ∧
    w.grownBy (((w.setCell ⟨q, 0, none⟩ a).setCell ⟨q, 1, none⟩ b).setCell ⟨q, 2, none⟩ c) (some q) := by
  have h1 : (w.setCell ⟨q, 0, none⟩ a).heap[q]? = some (.cells #[a, c1, c2] T (0, 0)) := by rw [heap_setCell_same w q 0 _ T a h]; rfl
  have h2 : ((w.setCell ⟨q, 0, none⟩ a).setCell ⟨q, 1, none⟩ b).heap[q]? = some (.cells #[a, b, c2] T (0, 0)) := by rw [heap_setCell_same _ q 1 _ T b h1]; rfl
  refine ⟨by rw [heap_setCell_same _ q 2 _ T c h2]; rfl, ⟨rfl, rfl, rfl, by simp [World.setCell], fun k _ hk => ?_⟩⟩
  rw [heap_setCell_other _ ⟨q, 2, none⟩ k c (fun e => hk (by simp [e])), heap_setCell_other _ ⟨q, 1, none⟩ k b (fun e => hk (by simp [e])), heap_setCell_other w ⟨q, 0, none⟩ k a (fun e => hk (by simp [e]))]
theorem box_new (w : World) (c0 c1 c2 : Value) (T : TypeId) : (w.alloc (.cells #[c0, c1, c2] T)).heap[w.heap.size]? = some (.cells #[c0, c1, c2] T (0, 0)) := by rw [heap_alloc_new]
theorem box_old {w : World} {q : Nat} {o : Option Obj} (h : w.heap[q]? = o) (hq : q < w.heap.size) (x : Obj) : (w.alloc x).heap[q]? = o := by
  rw [← h]
  show (w.heap.push x)[q]? = _
  rw [Array.getElem?_push, if_neg (by omega)]
theorem box_below {B q : Nat} {w w' : World} {o : Option Obj} (h : w.heap[q]? = o) (hb : Below B w w') (hq : q < B) : w'.heap[q]? = o := by rw [hb.block q hq]; exact h
/-- at a return behind a store of all three cells: the world by what it holds -/
theorem box_post {P : Program} {f : Func} {Q : Ending → World → Prop} {x : Exit} {act : Act} {w : World} {q : Nat} {c0 c1 c2 a b c : Value} {T : TypeId} (h : w.heap[q]? = some (.cells #[c0, c1, c2] T (0, 0)))
    (k : ∀ w2, w2.heap[q]? = some (.cells #[a, b, c] T (0, 0)) → w.grownBy w2 (some q) → bodyPost P f Q x act w2) :
    bodyPost P f Q x act (((w.setCell ⟨q, 0, none⟩ a).setCell ⟨q, 1, none⟩ b).setCell ⟨q, 2, none⟩ c) :=
  k _ (box_set3 h a b c).1 (box_set3 h a b c).2
theorem below_set {w0 w w2 : World} {q : Nat} (hb : Below w0.heap.size w0 w) (gr : w.grownBy w2 (some q)) (hq : w0.heap.size ≤ q) : Below w0.heap.size w0 w2 :=
  hb.grown gr hb.size (fun k hk => by cases hk; exact hq)
end Go.Proofs.YtofdbnkeddcdjaaDoor
/-
  The contracts of the draws of values: some value, whatever it is, with a text of at most 21 bytes.
-/
namespace Go.Proofs.YtofdbnkeddcdjaaDoor
open Go.RowKit
set_option linter.unusedVariables false

theorem box_grown {w w' : World} {R q : Nat} {o : Obj} (h : w.heap[R]? = some o) (hg : w.grownBy w' (some q)) (hne : R ≠ q) : w'.heap[R]? = some o := by
  rw [hg.block R (Array.getElem?_eq_some_iff.1 h).1 (by simp; omega)]; exact h
theorem box_alloc {w : World} {R : Nat} {o : Obj} (h : w.heap[R]? = some o) (x : Obj) : (w.alloc x).heap[R]? = some o := box_old h (Array.getElem?_eq_some_iff.1 h).1 x
theorem grown_alloc (w : World) (o : Obj) (q : Nat) : w.grownBy (w.alloc o) (some q) := World.grownBy_alloc w o _

set_option maxHeartbeats 400000 in
theorem l1Once_any (B q : Nat) (n : Int) (w : World) (hc : Cur B w q) (hn : 0 < n) (hn2 : n ≤ 1000000) :
    Calls Tryd.prog 30 #[.pointer (some ⟨q, 0, none⟩), .int .i64 n] w fun e w' => ∃ b : Bool, e = .returned (.bool b) ∧ Cur B w' q ∧ w.grownBy w' (some q) := by
  go_enter Tryd.func30, Tryd.ntmps30
  go_wp2_with fail
  refine (l1Below_any B q n w hc hn hn2).mono ?_
  rintro e w1 ⟨x, rfl, x0, x1, c1, g1⟩
  go_wp2
  go_ret
  exact ⟨_, rfl, c1, g1⟩

set_option maxHeartbeats 1600000 in
theorem l1Str_any (B q l : Nat) (zs : List ByteArray) (cap : Nat) (w : World) (hc : Cur B w q) (hn : 0 < zs.length) (hn2 : zs.length ≤ 1000) (hq : l ≠ q)
    (hz : ∀ k, k < zs.length → w.cell? ⟨l, k, none⟩ = some (.string (zs.getD k ⟨#[]⟩))) :
    Calls Tryd.prog 31 #[.pointer (some ⟨q, 0, none⟩), .slice (some ⟨l, 0, none⟩) zs.length cap] w fun e w' => ∃ x : ByteArray, e = .returned (.string x) ∧ x ∈ zs ∧ Cur B w' q ∧ w.grownBy w' (some q) := by
  obtain ⟨n, hN⟩ : ∃ n, n = zs.length := ⟨_, rfl⟩
  rw [← hN] at hn hn2 hz ⊢
  have HZ := hide hz
  have HN := hide hN
  clear hz hN
  go_enter Tryd.func31, Tryd.ntmps31
  go_wp2_with fail
  refine (l1Below_any B q n w hc (by omega) (by omega)).mono ?_
  rintro e w1 ⟨x, rfl, x0, x1, c1, g1⟩
  obtain ⟨k, rfl⟩ := Int.eq_ofNat_of_zero_le x0
  have hk : k < n := by omega
  have h1 : w1.cell? ⟨l, k, none⟩ = some (.string (zs.getD k ⟨#[]⟩)) := g1.cell (HZ.out k hk) (by simp; exact hq)
  have HM : Hid (zs.getD k ⟨#[]⟩ ∈ zs) := by
    have hk2 : k < zs.length := by rw [← HN.out]; exact hk
    unfold Hid
    simp [List.getD, hk2]
  generalize zs.getD k ⟨#[]⟩ = z at h1 HM
  go_wp2
  go_ret
  exact ⟨_, rfl, HM.out, c1, g1⟩

theorem cells_strs (w : World) (T : TypeId) (zs : List ByteArray) : ∀ k, k < zs.length → (w.alloc (.cells (zs.map Value.string).toArray T)).cell? ⟨w.heap.size, k, none⟩ = some (.string (zs.getD k ⟨#[]⟩)) := by
  intro k hk
  rw [cell_of_row _ w.heap.size k _ T (0, 0) (heap_alloc_new w _)]
  simp [List.getD, hk]

set_option maxRecDepth 100000 in
set_option maxHeartbeats 1600000 in
theorem l2Draw_any (B q : Nat) (w : World) (hc : Cur B w q) :
    Calls Tryd.prog 33 #[.pointer (some ⟨q, 0, none⟩)] w fun e w' => ∃ (K N : Int) (S : ByteArray), e = .returned (.agg #[.int .i64 K, .int .i64 N, .string S]) ∧ S.size ≤ 21 ∧ Cur B w' q ∧ w.grownBy w' (some q) := by
  have hq := hc.lt
  have hB := hc.1
  go_enter Tryd.func33, Tryd.ntmps33
  go_wp2_with fail
  refine (l1Once_any B q 2 _ (hc.keep (World.grownBy_alloc w _ none) (by simp) (by simp)) (by omega) (by omega)).mono ?_
  rintro e w1 ⟨b, rfl, c1, g1⟩
  have HR := hide (box_grown (box_new w (.int .i64 0) (.int .i64 0) (.string ⟨#[]⟩) 25) g1 (by omega))
  have G1 : w.grownBy w1 (some q) := grown_trans (grown_alloc w _ q) g1
  have z1 := G1.size
  have l1 := (Array.getElem?_eq_some_iff.1 HR.out).1
  clear g1
  cases b
  · go_wp2_with fail
    refine (l1Str_any B q w1.heap.size [⟨#[]⟩, ⟨#[97]⟩, ⟨#[98]⟩, ⟨#[112, 97, 105, 100]⟩, ⟨#[120, 95, 49]⟩] 5 _ (c1.keep (World.grownBy_alloc w1 _ none) (by simp) (by simp)) (by decide) (by decide) (by omega) (cells_strs w1 9 _)).mono ?_
    rintro e w2 ⟨s, rfl, hx, c2, g2⟩
    have HS : Hid (s.size ≤ 21) := by
      unfold Hid
      simp only [List.mem_cons, List.not_mem_nil, or_false] at hx
      rcases hx with rfl | rfl | rfl | rfl | rfl <;> decide
    have HR2 := hide (box_grown (box_alloc HR.out _) g2 (by omega))
    have G2 : w.grownBy w2 (some q) := grown_trans (grown_trans G1 (grown_alloc w1 _ q)) g2
    obtain ⟨a0, a1, a2, f0, f1, f2⟩ := box_cell HR2.out
    clear hx g2 HR c1
    go_wp2
    refine box_post HR2.out (fun w3 h3 gr => ?_)
    clear a0 a1 a2 f0 f1 f2
    obtain ⟨a0, a1, a2, -, -, -⟩ := box_cell h3
    refine bodyPost_ret (v := .agg #[.int .i64 2, .int .i64 0, .string s]) (by simp [results, Tryd.results33, go_sem, a0, a1, a2]) rfl ⟨_, _, _, rfl, HS.out, c2.keep gr (by simp; omega) (by intro k hk; cases hk; omega), grown_more G2 gr (by intro k hk; cases hk; omega)⟩
  · go_wp2_with fail
    refine (l1Int_any B q w1.heap.size [0, 1, 2, 3, -1, 1000000000, -1000000000] 7 _ (c1.keep (World.grownBy_alloc w1 _ none) (by simp) (by simp)) (by decide) (by decide) (by omega) (cells_lit w1 3 _)).mono ?_
    rintro e w2 ⟨x, rfl, hx, c2, g2⟩
    have HR2 := hide (box_grown (box_alloc HR.out _) g2 (by omega))
    have G2 : w.grownBy w2 (some q) := grown_trans (grown_trans G1 (grown_alloc w1 _ q)) g2
    obtain ⟨a0, a1, a2, f0, f1, f2⟩ := box_cell HR2.out
    clear hx g2 HR c1
    go_wp2
    refine box_post HR2.out (fun w3 h3 gr => ?_)
    clear a0 a1 a2 f0 f1 f2
    obtain ⟨a0, a1, a2, -, -, -⟩ := box_cell h3
    refine bodyPost_ret (v := .agg #[.int .i64 1, .int .i64 x, .string ⟨#[]⟩]) (by simp [results, Tryd.results33, go_sem, a0, a1, a2]) rfl ⟨_, _, _, rfl, by decide, c2.keep gr (by simp; omega) (by intro k hk; cases hk; omega), grown_more G2 gr (by intro k hk; cases hk; omega)⟩
end Go.Proofs.YtofdbnkeddcdjaaDoor
/-
  A value, plainly: its kind, number and text.
-/
namespace Go.Proofs.YtofdbnkeddcdjaaDoor
open Go.RowKit
set_option linter.unusedVariables false

structure V3 where
  K : Int
  N : Int
  S : ByteArray
instance : Inhabited V3 := ⟨⟨0, 0, ⟨#[]⟩⟩⟩
def V3.agg (v : V3) : Value := .agg #[.int .i64 v.K, .int .i64 v.N, .string v.S]
theorem V3.ext' {a b : V3} (h1 : a.K = b.K) (h2 : a.N = b.N) (h3 : a.S = b.S) : a = b := by
  cases a; cases b; simp_all
end Go.Proofs.YtofdbnkeddcdjaaDoor
/-
  Numbers as texts, plainly: what is written comes back, and nothing else is read.
-/
namespace Go.Proofs.YtofdbnkeddcdjaaDoor
open Go.Lib
set_option linter.unusedVariables false

theorem decFrom_snoc (c : UInt8) : ∀ (l : List UInt8) (acc : Nat), decFrom acc (l ++ [c]) = match decFrom acc l with
    | some m => (match digitVal c with | some d => some (m * 10 + d) | none => none)
    | none => none
  | [], acc => by
    simp only [List.nil_append, decFrom]
    cases digitVal c <;> rfl
  | b :: r, acc => by
    simp only [List.cons_append, decFrom]
    cases digitVal b with
    | none => rfl
    | some d => exact decFrom_snoc c r _

theorem digitVal_dec (d : Nat) (h : d < 10) : digitVal (UInt8.ofNat (48 + d)) = some d := by
  have e : (UInt8.ofNat (48 + d)).toNat = 48 + d := by simp; omega
  unfold digitVal
  rw [e, if_pos (by omega)]
  simp

theorem decFrom_dec (u : Nat) : decFrom 0 (decDigits u) = some u := by
  induction u using Nat.strongRecOn with
  | _ u ih =>
    by_cases h : u < 10
    · rw [decDigits_one h]
      simp only [decFrom, digitVal_dec u h]; simp
    · rw [decDigits, dif_neg h, decFrom_snoc, ih (u / 10) (by omega), digitVal_dec _ (by omega)]
      simp; omega

theorem decDigits_ne (u : Nat) : decDigits u ≠ [] := by
  intro h
  have := decDigits_length u
  rw [h] at this
  have := nDigits_pos u
  simp at *; omega

theorem dec_head (u : Nat) : ∃ d r, decDigits u = UInt8.ofNat (48 + d) :: r ∧ d < 10 ∧ (0 < u → 0 < d) ∧ (u < 10 → r = []) := by
  induction u using Nat.strongRecOn with
  | _ u ih =>
    by_cases h : u < 10
    · exact ⟨u, [], decDigits_one h, h, fun h => h, fun _ => rfl⟩
    · obtain ⟨d, r, e, hd, hp, _⟩ := ih (u / 10) (by omega)
      refine ⟨d, r ++ [UInt8.ofNat (48 + u % 10)], ?_, hd, fun _ => hp (by omega), fun h2 => absurd h2 h⟩
      rw [decDigits, dif_neg h, e]; rfl

theorem ofNat_inj48 {d : Nat} (h : d < 10) (k : Nat) (hk : k < 256) : UInt8.ofNat (48 + d) = UInt8.ofNat k ↔ 48 + d = k := by
  constructor
  · intro e
    have := congrArg UInt8.toNat e
    simp at this; omega
  · intro e; rw [e]

theorem nDigits_10 (u : Nat) (h : u ≤ 1000000000) : nDigits u ≤ 10 := by
  rcases Nat.lt_or_ge (nDigits u) 11 with h1 | h1
  · omega
  · exfalso
    -- ten digits at most
    have : ∀ u, u < 10 ^ 10 → nDigits u ≤ 10 := by
      intro u hu
      have step : ∀ (k u : Nat), u < 10 ^ (k + 1) → nDigits u ≤ k + 1 := by
        intro k
        induction k with
        | zero => intro u hu; rw [nDigits_small (by simpa using hu)]; omega
        | succ k ih =>
          intro u hu
          by_cases hs : u < 10
          · rw [nDigits_small hs]; omega
          · rw [nDigits_big hs]
            have := ih (u / 10) (by rw [Nat.pow_succ] at hu; exact Nat.div_lt_of_lt_mul (by omega))
            omega
      exact step 9 u hu
    have := this u (by omega)
    omega

/-- the number of a text of at most ten digits, with no needless nought; -1: it is none -/
def wholeL (l : List UInt8) : Int :=
  if l.length < 1 ∨ 10 < l.length ∨ (1 < l.length ∧ l.head? = some 48) then -1
  else match decFrom 0 l with
    | some n => (n : Int)
    | none => -1

theorem whole_dec (u : Nat) (h : u ≤ 1000000000) : wholeL (decDigits u) = (u : Int) := by
  have hl := decDigits_length u
  have h1 := nDigits_pos u
  have h2 := nDigits_10 u h
  unfold wholeL
  rw [if_neg, decFrom_dec]
  rintro (h3 | h3 | ⟨h3, h4⟩)
  · omega
  · omega
  · obtain ⟨d, r, e, hd, hp, hr⟩ := dec_head u
    rw [e] at h4 h3
    simp only [List.head?_cons, Option.some.injEq] at h4
    have := (ofNat_inj48 hd 48 (by omega)).1 h4
    by_cases h0 : 0 < u
    · have := hp h0; omega
    · have := hr (by omega); rw [this] at h3; simp at h3

theorem digitVal_some {c : UInt8} {d : Nat} (h : digitVal c = some d) : c = UInt8.ofNat (48 + d) ∧ d < 10 := by
  obtain ⟨h1, h2, h3⟩ := digitVal_eq h
  refine ⟨?_, by omega⟩
  apply UInt8.toNat_inj.1
  rw [h3]
  simp; omega

/-- digits without a needless nought are their number's -/
theorem dec_of : ∀ (n : Nat) (l : List UInt8) (u : Nat), l.length = n + 1 → (1 < l.length → l.head? ≠ some 48) → decFrom 0 l = some u → l = decDigits u ∧ (l.head? ≠ some 48 → 0 < u)
  | 0, l, u, hl, hh, hd => by
    match l, hl with
    | [c], _ =>
      simp only [decFrom] at hd
      cases hc : digitVal c with
      | none => rw [hc] at hd; cases hd
      | some d =>
        rw [hc] at hd
        simp at hd
        obtain ⟨e, h10⟩ := digitVal_some hc
        subst hd
        refine ⟨by rw [decDigits_one h10, e], fun h => ?_⟩
        rcases Nat.eq_zero_or_pos d with h0 | h0
        · exfalso; apply h; rw [e, h0]; rfl
        · exact h0
  | n + 1, l, u, hl, hh, hd => by
    have hne : l ≠ [] := by intro e; rw [e] at hl; simp at hl
    obtain ⟨l', c, rfl⟩ : ∃ l' c, l = l' ++ [c] := ⟨l.dropLast, l.getLast hne, (List.dropLast_concat_getLast hne).symm⟩
    have hl' : l'.length = n + 1 := by simp at hl; exact hl
    have hhd : (l' ++ [c]).head? = l'.head? := by
      cases l' with
      | nil => simp at hl'
      | cons a r => rfl
    have hh' : l'.head? ≠ some 48 := by rw [← hhd]; exact hh (by simp; omega)
    rw [decFrom_snoc] at hd
    cases h1 : decFrom 0 l' with
    | none => rw [h1] at hd; cases hd
    | some m =>
      rw [h1] at hd
      simp only at hd
      cases hc : digitVal c with
      | none => rw [hc] at hd; cases hd
      | some d =>
        rw [hc] at hd
        simp at hd
        obtain ⟨e, h10⟩ := digitVal_some hc
        obtain ⟨e2, hp⟩ := dec_of n l' m hl' (fun _ => hh') h1
        have hm := hp hh'
        subst hd
        refine ⟨?_, fun _ => by omega⟩
        rw [decDigits, dif_neg (by omega), show (m * 10 + d) / 10 = m by omega, show (m * 10 + d) % 10 = d by omega, ← e2, e]

theorem whole_of {l : List UInt8} {u : Int} (h : wholeL l = u) (h0 : 0 ≤ u) : l = decDigits u.toNat := by
  unfold wholeL at h
  split at h
  · omega
  · rename_i hc
    split at h
    · rename_i n hn
      subst h
      have := (dec_of (l.length - 1) l n (by omega) (fun h1 h2 => hc (.inr (.inr ⟨h1, h2⟩))) hn).1
      simpa using this
    · omega

def numOk (n : Int) : Bool := decide (-1000000000 ≤ n) && decide (n ≤ 1000000000)
theorem numOk_iff {n : Int} : numOk n = true ↔ -1000000000 ≤ n ∧ n ≤ 1000000000 := by simp [numOk]

/-- a text's number, as the model reads it -/
def numV (l : List UInt8) : Option Int :=
  if 1 < l.length ∧ l.head? = some 45 then
    if 0 ≤ - wholeL l.tail then none else if numOk (- wholeL l.tail) then some (- wholeL l.tail) else none
  else if wholeL l < 0 then none else if numOk (wholeL l) then some (wholeL l) else none

theorem itoa_neg {n : Int} (h : n < 0) : itoa n = 45 :: decDigits n.natAbs := by unfold itoa; rw [if_pos h]
theorem itoa_pos {n : Int} (h : ¬ n < 0) : itoa n = decDigits n.toNat := by unfold itoa; rw [if_neg h]

theorem numV_itoa {n : Int} (h : numOk n = true) : numV (itoa n) = some n := by
  rw [numOk_iff] at h
  by_cases hn : n < 0
  · rw [itoa_neg hn]
    have hp := List.length_pos_iff.2 (decDigits_ne n.natAbs)
    have hw := whole_dec n.natAbs (by omega)
    unfold numV
    rw [if_pos (by simp; omega)]
    have e : wholeL (45 :: decDigits n.natAbs).tail = (n.natAbs : Int) := hw
    rw [if_neg (by rw [e]; omega), e, if_pos (by rw [numOk_iff]; omega)]
    congr 1; omega
  · rw [itoa_pos hn]
    have hw := whole_dec n.toNat (by omega)
    unfold numV
    rw [if_neg, hw, if_neg (by omega), if_pos (by rw [numOk_iff]; omega)]
    · congr 1; omega
    · rintro ⟨_, h2⟩
      obtain ⟨d, r, e, hd, _, _⟩ := dec_head n.toNat
      rw [e] at h2
      simp only [List.head?_cons, Option.some.injEq] at h2
      have := (ofNat_inj48 hd 45 (by omega)).1 h2
      omega

theorem numV_some {l : List UInt8} {n : Int} (h : numV l = some n) : numOk n = true ∧ l = itoa n := by
  unfold numV at h
  split at h
  · rename_i hc
    split at h
    · cases h
    · rename_i h0
      split at h
      · rename_i hk
        simp only [Option.some.injEq] at h
        subst h
        refine ⟨hk, ?_⟩
        rw [itoa_neg (by omega)]
        have e := whole_of (l := l.tail) rfl (by omega)
        match l, hc with
        | b :: r, ⟨_, h2⟩ =>
          simp only [List.head?_cons, Option.some.injEq] at h2
          simp only [List.tail_cons] at e h0 ⊢
          rw [h2]
          congr 1
          rw [show (-wholeL r).natAbs = (wholeL r).toNat by omega]
          exact e
      · cases h
  · split at h
    · cases h
    · split at h
      · rename_i hk
        simp only [Option.some.injEq] at h
        subst h
        refine ⟨hk, ?_⟩
        rw [itoa_pos (by omega)]
        exact whole_of rfl (by omega)
      · cases h

theorem atoi_itoa {n : Int} (h : numOk n = true) : atoiAll (itoa n) = .ok n := by
  rw [numOk_iff] at h
  have hd := decFrom_dec n.natAbs
  have hl := decDigits_length n.natAbs
  have hl2 := nDigits_10 n.natAbs (by omega)
  have hne : (decDigits n.natAbs).isEmpty = false := by
    have := decDigits_ne n.natAbs
    cases hx : decDigits n.natAbs with
    | nil => exact absurd hx this
    | cons a r => rfl
  by_cases hn : n < 0
  · rw [itoa_neg hn, atoiAll_short _ (by simp; omega)]
    have : atoi (45 :: decDigits n.natAbs) = some n := by
      show (decNat (decDigits n.natAbs)).map (fun (m : Nat) => -(m : Int)) = _
      unfold decNat
      rw [hne]
      simp only [Bool.false_eq_true, if_false]
      rw [hd]
      simp; omega
    rw [this]; rfl
  · rw [itoa_pos hn, show n.toNat = n.natAbs by omega, atoiAll_short _ (by omega)]
    have : atoi (decDigits n.natAbs) = some n := by
      obtain ⟨d, r, e, hdd, _, _⟩ := dec_head n.natAbs
      rw [e] at hd ⊢
      have h1 : (UInt8.ofNat (48 + d) == 45) = false := by
        rw [beq_eq_false_iff_ne]; intro e2
        have := (ofNat_inj48 hdd 45 (by omega)).1 e2
        omega
      have h2 : (UInt8.ofNat (48 + d) == 43) = false := by
        rw [beq_eq_false_iff_ne]; intro e2
        have := (ofNat_inj48 hdd 43 (by omega)).1 e2
        omega
      unfold atoi
      simp only [h1, h2, Bool.false_eq_true, if_false]
      unfold decNat
      rw [show (UInt8.ofNat (48 + d) :: r).isEmpty = false from rfl]
      simp only [Bool.false_eq_true, if_false]
      rw [hd]
      simp; omega
    rw [this]; rfl

/-- a text whose first byte is neither a digit nor a sign has no number -/
theorem numV_head {c : UInt8} {r : List UInt8} (h1 : c.toNat = 39) : numV (c :: r) = none := by
  cases h : numV (c :: r) with
  | none => rfl
  | some n =>
    obtain ⟨hk, e⟩ := numV_some h
    exfalso
    by_cases hn : n < 0
    · rw [itoa_neg hn] at e
      simp only [List.cons.injEq] at e
      rw [e.1] at h1; exact absurd h1 (by decide)
    · rw [itoa_pos hn] at e
      obtain ⟨d, r', e', hd, _, _⟩ := dec_head n.toNat
      rw [e'] at e
      simp only [List.cons.injEq] at e
      rw [e.1] at h1
      simp at h1; omega
end Go.Proofs.YtofdbnkeddcdjaaDoor
/-
  What the model's l2Whole answers: wholeL of the text, in the world as it was.
-/
namespace Go.Proofs.YtofdbnkeddcdjaaDoor
open Go.RowKit Go.Lib
set_option linter.unusedVariables false

theorem decFrom_app : ∀ (a b : List UInt8) (acc : Nat), decFrom acc (a ++ b) = match decFrom acc a with
    | some m => decFrom m b
    | none => none
  | [], b, acc => rfl
  | c :: r, b, acc => by
    simp only [List.cons_append, decFrom]
    cases digitVal c with
    | none => rfl
    | some d => exact decFrom_app r b _

theorem whole_bad {l : List UInt8} (h : l.length < 1 ∨ 10 < l.length ∨ (1 < l.length ∧ l.head? = some 48)) : wholeL l = -1 := by
  unfold wholeL; rw [if_pos h]
theorem whole_go {l : List UInt8} (h : ¬ (l.length < 1 ∨ 10 < l.length ∨ (1 < l.length ∧ l.head? = some 48))) {m : Nat} (hm : decFrom 0 l = some m) : wholeL l = (m : Int) := by
  unfold wholeL; rw [if_neg h, hm]
theorem whole_none {l : List UInt8} (hm : decFrom 0 l = none) : wholeL l = -1 := by
  unfold wholeL; split
  · rfl
  · rw [hm]
theorem take_step {l : List UInt8} {k : Nat} (hk : k < l.length) : l.take (k + 1) = l.take k ++ [l[k]] := by
  rw [List.take_succ_eq_append_getElem hk]
theorem dec_step {l : List UInt8} {k m : Nat} (hk : k < l.length) (h : decFrom 0 (l.take k) = some m) (h1 : 48 ≤ l[k].toNat) (h2 : l[k].toNat ≤ 57) : decFrom 0 (l.take (k + 1)) = some (m * 10 + (l[k].toNat - 48)) := by
  rw [take_step hk, decFrom_snoc, h]
  simp [digitVal, h1, h2]
theorem dec_stop {l : List UInt8} {k m : Nat} (hk : k < l.length) (h : decFrom 0 (l.take k) = some m) (h1 : ¬ (48 ≤ l[k].toNat ∧ l[k].toNat ≤ 57)) : decFrom 0 l = none := by
  have e : decFrom 0 (l.take (k + 1)) = none := by
    rw [take_step hk, decFrom_snoc, h]
    simp only [digitVal, if_neg h1]
  have := decFrom_app (l.take (k + 1)) (l.drop (k + 1)) 0
  rw [List.take_append_drop, e] at this
  exact this
theorem pow_small {k m : Nat} (hk : k ≤ 9) (h : m < 10 ^ k) : m < 1000000000 := Nat.lt_of_lt_of_le h (Nat.pow_le_pow_right (by omega) hk)

set_option maxRecDepth 100000 in
set_option maxHeartbeats 1600000 in
theorem l2Whole_any (s : ByteArray) (w : World) (hs : s.size ≤ maxLen) :
    Calls Tryd.prog 34 #[.string s] w fun e w' => e = .returned (.int .i64 (wholeL s.data.toList)) ∧ w' = w := by
  unfold maxLen at hs
  have hl : s.data.toList.length = s.size := by rw [Array.length_toList]; rfl
  by_cases h1 : 1 ≤ s.size ∧ s.size ≤ 10
  · obtain ⟨h1a, h1b⟩ := h1
    have hd : s.data.toList.head? = some (s[0]'(by omega)) := by
      rw [List.head?_eq_getElem?, List.getElem?_eq_getElem (by omega)]
      simp [ByteArray.getElem_eq_getElem_data]
    by_cases h2 : 1 < s.size ∧ (s[0]'(by omega)) = 48
    · obtain ⟨h2a, h2b⟩ := h2
      have HW := hide (whole_bad (l := s.data.toList) (.inr (.inr ⟨by omega, by rw [hd, h2b]⟩)))
      clear hd
      have h2c : ((s[0]'(by omega)).toNat : Int) = 48 := by rw [h2b]; rfl
      go_enter Tryd.func34, Tryd.ntmps34
      go_wp2_with (go_at_call 23; refine (l1In_any _ _ _ _).mono ?_; rw [inB_t (by omega)]; rintro e w' ⟨rfl, rfl⟩)
      go_ret
      exact ⟨ret_int HW.out.symm, rfl⟩
    · have hgood : ¬ (s.data.toList.length < 1 ∨ 10 < s.data.toList.length ∨ (1 < s.data.toList.length ∧ s.data.toList.head? = some 48)) := by
        rintro (h | h | ⟨h, h'⟩)
        · omega
        · omega
        · exact h2 ⟨by omega, by rw [hd] at h'; exact Option.some.inj h'⟩
      have HG := hide (fun m => whole_go hgood (m := m))
      have h2c : s.size = 1 ∨ ((s[0]'(by omega)).toNat : Int) ≠ 48 := by
        by_cases h : s.size = 1
        · exact .inl h
        · exact .inr (fun h' => h2 ⟨by omega, UInt8.toNat_inj.1 (by have : (48 : UInt8).toNat = 48 := rfl; omega)⟩)
      clear hd hgood h2
      by_cases hone : s.size = 1
      · have hn1 : ¬ ((1 : Int) < (s.size : Int)) := by omega
        clear h2c
        go_enter Tryd.func34, Tryd.ntmps34
        go_wp2_with (go_at_call 23; refine (l1In_any _ _ _ _).mono ?_; rw [inB_t (by omega)]; rintro e w' ⟨rfl, rfl⟩)
        go_loop [3, 4] (fun n i => ∃ m k : Nat, k ≤ s.size ∧ n = .int .i64 m ∧ i = .int .i64 k ∧ m < 10 ^ k ∧ decFrom 0 (s.data.toList.take k) = some m) (fun n i => s.size - (intOf i).toNat)
        case atStart => exact ⟨0, 0, Nat.zero_le _, rfl, rfl, by decide, by simp [decFrom]⟩
        case round =>
          obtain ⟨m, k, hk, rfl, rfl, hm, hdec⟩ := hrel
          by_cases hlt : k < s.size
          · have hx : (s.data.toList[k]'(by omega)) = (s[k]'hlt) := by simp [ByteArray.getElem_eq_getElem_data]
            have hlb : 0 ≤ ((s[k]'hlt).toNat : Int) := by omega
            have hub : ((s[k]'hlt).toNat : Int) ≤ 255 := by have := (s[k]'hlt).toNat_lt; omega
            by_cases h3 : 48 ≤ (s[k]'hlt).toNat ∧ (s[k]'hlt).toNat ≤ 57
            · have HD := hide (dec_step (by omega) hdec (by rw [hx]; exact h3.1) (by rw [hx]; exact h3.2))
              rw [hx] at HD
              have HP := hide hm
              have hsm := pow_small (by omega) hm
              obtain ⟨h3a, h3b⟩ := h3
              clear hdec hx hm
              go_wp2_with (go_at_call 23; refine (l1In_any _ _ _ _).mono ?_; rw [inB_t (by omega)]; rintro e w' ⟨rfl, rfl⟩)
              go_round
              case rel => exact ⟨m * 10 + ((s[k]'hlt).toNat - 48), k + 1, by omega, by go_num, by go_num, by have := HP.out; rw [Nat.pow_succ]; omega, HD.out⟩
              case measure => simp [intOf]; omega
            · have HN := hide (whole_none (dec_stop (by omega) hdec (by rw [hx]; exact h3)))
              clear hdec hx hm
              go_wp2_with (go_at_call 23; refine (l1In_any _ _ _ _).mono ?_; rw [inB_f (by omega)]; rintro e w' ⟨rfl, rfl⟩)
              go_ret
              exact ⟨ret_int HN.out.symm, rfl⟩
          · have HN := hide (HG.out m (by rw [List.take_of_length_le (by omega)] at hdec; exact hdec))
            clear hdec hm
            go_wp2
            go_ret
            exact ⟨ret_int HN.out.symm, rfl⟩
      · have hn1 : (1 : Int) < (s.size : Int) := by omega
        have hne : (((s[0]'(by omega)).toNat : Int) == 48) = false := by simp; rcases h2c with h | h; exact absurd h hone; omega
        clear h2c
        go_enter Tryd.func34, Tryd.ntmps34
        go_wp2_with (go_at_call 23; refine (l1In_any _ _ _ _).mono ?_; rw [inB_t (by omega)]; rintro e w' ⟨rfl, rfl⟩)
        go_loop [3, 4] (fun n i => ∃ m k : Nat, k ≤ s.size ∧ n = .int .i64 m ∧ i = .int .i64 k ∧ m < 10 ^ k ∧ decFrom 0 (s.data.toList.take k) = some m) (fun n i => s.size - (intOf i).toNat)
        case atStart => exact ⟨0, 0, Nat.zero_le _, rfl, rfl, by decide, by simp [decFrom]⟩
        case round =>
          obtain ⟨m, k, hk, rfl, rfl, hm, hdec⟩ := hrel
          by_cases hlt : k < s.size
          · have hx : (s.data.toList[k]'(by omega)) = (s[k]'hlt) := by simp [ByteArray.getElem_eq_getElem_data]
            have hlb : 0 ≤ ((s[k]'hlt).toNat : Int) := by omega
            have hub : ((s[k]'hlt).toNat : Int) ≤ 255 := by have := (s[k]'hlt).toNat_lt; omega
            by_cases h3 : 48 ≤ (s[k]'hlt).toNat ∧ (s[k]'hlt).toNat ≤ 57
            · have HD := hide (dec_step (by omega) hdec (by rw [hx]; exact h3.1) (by rw [hx]; exact h3.2))
              rw [hx] at HD
              have HP := hide hm
              have hsm := pow_small (by omega) hm
              obtain ⟨h3a, h3b⟩ := h3
              clear hdec hx hm
              go_wp2_with (go_at_call 23; refine (l1In_any _ _ _ _).mono ?_; rw [inB_t (by omega)]; rintro e w' ⟨rfl, rfl⟩)
              go_round
              case rel => exact ⟨m * 10 + ((s[k]'hlt).toNat - 48), k + 1, by omega, by go_num, by go_num, by have := HP.out; rw [Nat.pow_succ]; omega, HD.out⟩
              case measure => simp [intOf]; omega
            · have HN := hide (whole_none (dec_stop (by omega) hdec (by rw [hx]; exact h3)))
              clear hdec hx hm
              go_wp2_with (go_at_call 23; refine (l1In_any _ _ _ _).mono ?_; rw [inB_f (by omega)]; rintro e w' ⟨rfl, rfl⟩)
              go_ret
              exact ⟨ret_int HN.out.symm, rfl⟩
          · have HN := hide (HG.out m (by rw [List.take_of_length_le (by omega)] at hdec; exact hdec))
            clear hdec hm
            go_wp2
            go_ret
            exact ⟨ret_int HN.out.symm, rfl⟩
  · have HW := hide (whole_bad (l := s.data.toList) (by omega))
    go_enter Tryd.func34, Tryd.ntmps34
    go_wp2_with (go_at_call 23; refine (l1In_any _ _ _ _).mono ?_; rw [inB_f (by omega)]; rintro e w' ⟨rfl, rfl⟩)
    go_ret
    exact ⟨ret_int HW.out.symm, rfl⟩
end Go.Proofs.YtofdbnkeddcdjaaDoor
/-
  What the model's text of a number is: itoa of the number; nothing that was there has turned.
-/
namespace Go.Proofs.YtofdbnkeddcdjaaDoor
open Go.RowKit
set_option linter.unusedVariables false

theorem conv_one (q : Nat) (c : UInt8) (d : Int) (hd : d = (c.toNat : Int)) (W : World) (h : W.cell? ⟨q, 0, none⟩ = some (.int .u8 d)) :
    (convert 22 9 (.slice (some ⟨q, 0, none⟩) 1 1)).run Tryd.prog W = .ok (.string ⟨#[c]⟩) W := by
  subst hd
  have := run_convert_bytes_back (P := Tryd.prog) W 22 9 5 ⟨q, 0, none⟩ 1 [c] Tryd.underlying22 Tryd.underlying5 Tryd.underlying9 (fun j hj => by
    obtain rfl : j = 0 := by simpa using hj
    rw [Addr.add_lit, Nat.add_zero, h]
    simp)
  simpa using this
theorem digit_byte {d : Nat} (h : d < 10) : ∃ c : UInt8, 48 + (d : Int) = (c.toNat : Int) ∧ UInt8.ofNat (48 + d) = c := ⟨_, by simp; omega, rfl⟩
theorem dec_snoc {u : Nat} (h : ¬ u < 10) : (⟨(Lib.decDigits (u / 10)).toArray⟩ : ByteArray) ++ ⟨#[UInt8.ofNat (48 + u % 10)]⟩ = ⟨(Lib.decDigits u).toArray⟩ := by
  rw [show Lib.decDigits u = Lib.decDigits (u / 10) ++ [UInt8.ofNat (48 + u % 10)] by rw [Lib.decDigits, dif_neg h]]
  apply ByteArray.ext
  rw [ByteArray.data_append]
  simp

theorem dec_size {u : Nat} (h : u ≤ 1000000000) : (⟨(Lib.decDigits u).toArray⟩ : ByteArray).size ≤ 10 := by
  have h1 := Lib.decDigits_length u
  have h2 := nDigits_10 u h
  show (Lib.decDigits u).toArray.size ≤ 10
  simp; omega

theorem below_d {w w' : World} (hb : Below w.drew.heap.size w.drew w') : Below w.heap.size w w' := ((Below.refl w.heap.size w).drew).trans hb
theorem below_da {w w' : World} (hb : Below w.drew.heap.size w.drew w') (o : Obj) : Below w.heap.size w (w'.alloc o) := (below_d hb).alloc (below_d hb).size _

set_option maxRecDepth 100000 in
set_option maxHeartbeats 1600000 in
theorem l2Num_pos (u : Nat) : ∀ (x : Int) (w : World), x = (u : Int) → u ≤ 1000000000 →
    Calls Tryd.prog 61 #[.int .i64 x] w fun e w' => ∃ s, e = .returned (.string s) ∧ s.size ≤ 10 ∧ Hid (s = ⟨(Lib.decDigits u).toArray⟩) ∧ Below w.heap.size w w' := by
  induction u using Nat.strongRecOn with
  | _ u ih =>
    intro x w hx hu
    subst hx
    have HZ := hide (dec_size hu)
    by_cases h : u < 10
    · obtain ⟨c, hc, hb⟩ := digit_byte h
      have HD : Hid (Lib.decDigits u = [c]) := by unfold Hid; rw [Lib.decDigits_one h, hb]
      have hconv := conv_one w.heap.size c _ hc (w.alloc (.cells #[.int .u8 (48 + (u : Int))] 5)) (by simp)
      have hn0 : ¬ ((u : Int) < 0) := by omega
      have hn1 : (u : Int) < 10 := by omega
      clear ih hc hb
      go_enter Tryd.func61, Tryd.ntmps61
      go_wp2
      go_ret
      exact ⟨⟨#[c]⟩, rfl, show (1 : Nat) ≤ 10 by omega, by unfold Hid; rw [HD.out], by go_grown⟩
    · obtain ⟨c, hc, hb⟩ := digit_byte (show u % 10 < 10 by omega)
      have HD := hide (dec_snoc h)
      rw [hb] at HD
      have HI := hide (fun (x : Int) (w : World) (hx : x = ((u / 10 : Nat) : Int)) => ih (u / 10) (by omega) x w hx (by omega))
      clear ih
      have hn0 : ¬ ((u : Int) < 0) := by omega
      have hn1 : ¬ ((u : Int) < 10) := by omega
      have hv : IntKind.u8.wrap (IntKind.i64.wrap (48 + (u : Int).tmod 10)) = (c.toNat : Int) := by rw [Int.tmod_eq_emod_of_nonneg (by omega), IntKind.wrap_i64, IntKind.wrap_u8]; omega
      have hconv := fun q W => conv_one q c _ hv W
      have hc1 : (ByteArray.mk #[c]).size = 1 := rfl
      clear hv hc hb
      go_enter Tryd.func61, Tryd.ntmps61
      go_wp2_with fail
      go_region_with (go_at_call 61; refine (HI.out _ _ ?_).mono ?_; (first | omega | (rw [IntKind.wrap_i64]; omega)); rintro e w' ⟨s, rfl, hs, HS, hb⟩; obtain ⟨hc, hf⟩ := bcell hb)
      all_goals go_wp2
      all_goals go_ret
      all_goals refine ⟨s ++ ⟨#[c]⟩, rfl, by rw [HS.out, HD.out]; exact HZ.out, by unfold Hid; rw [HS.out]; exact HD.out, ?_⟩
      all_goals first | (with_reducible exact below_box hb) | (with_reducible exact below_da hb _) | (with_reducible exact below_d hb)

set_option maxHeartbeats 1600000 in
theorem l2Num_any (n : Int) (w : World) (h : -1000000000 ≤ n) (h' : n ≤ 1000000000) :
    Calls Tryd.prog 61 #[.int .i64 n] w fun e w' => ∃ s, e = .returned (.string s) ∧ s.size ≤ 11 ∧ Hid (s = ⟨(Lib.itoa n).toArray⟩) ∧ Below w.heap.size w w' := by
  by_cases hn : n < 0
  · have HI := hide (itoa_neg hn)
    go_enter Tryd.func61, Tryd.ntmps61
    go_wp2_with fail
    refine (l2Num_pos n.natAbs _ _ (by omega) (by omega)).mono ?_
    rintro e w1 ⟨s, rfl, hs, HS, hb⟩
    have hc1 : (ByteArray.mk #[45]).size = 1 := rfl
    have HT : Hid (⟨#[45]⟩ ++ s = ⟨(Lib.itoa n).toArray⟩) := by
      unfold Hid
      rw [HS.out, HI.out]
      apply ByteArray.ext
      rw [ByteArray.data_append]
      simp
    have HZ : Hid ((⟨#[45]⟩ ++ s : ByteArray).size ≤ 11) := by
      unfold Hid
      rw [ByteArray.size_append, hc1]; omega
    go_wp2
    go_ret
    exact ⟨⟨#[45]⟩ ++ s, rfl, HZ.out, HT, hb⟩
  · have HI := hide (itoa_pos hn)
    exact (l2Num_pos n.toNat n w (by omega) (by omega)).mono fun e w' ⟨s, h1, h2, h3, h4⟩ => ⟨s, h1, by omega, by unfold Hid; rw [h3.out, HI.out], h4⟩
end Go.Proofs.YtofdbnkeddcdjaaDoor
/-
  The library's table of powers of ten.
-/
namespace Go.Proofs.YtofdbnkeddcdjaaDoor
open Go.RowKit
set_option linter.unusedVariables false

/-- the library's table of powers of ten reads as its initialiser lays it -/
def Tab (w : World) : Prop := Lib.TabIs Tryd.prog w "internal/strconv.uint64pow10" .u64 Lib.pow10Tab
theorem gTab : ∃ g, Tryd.prog.globalNamed "internal/strconv.uint64pow10" = some g := Option.isSome_iff_exists.1 (by kernel_rfl)
theorem Tab.later {w w' : World} {B : Nat} (h : Tab w) (hb : Below B w w') (hB : w.heap.size ≤ B) : Tab w' := by
  obtain ⟨g, hg⟩ := gTab
  exact Joins.tab_stays hg h hb hB
end Go.Proofs.YtofdbnkeddcdjaaDoor
/-
  What the texts of values are, the tested one and the model's alike: textV of the value; nothing that was there has turned. (The tested one reads the library's table of powers of ten.)
-/
namespace Go.Proofs.YtofdbnkeddcdjaaDoor
open Go.RowKit
set_option linter.unusedVariables false

def textV (K N : Int) (S : ByteArray) : ByteArray :=
  if valB K N S then (if K = 1 then ⟨(Lib.itoa N).toArray⟩ else ⟨#[39]⟩ ++ S ++ ⟨#[39]⟩) else ⟨#[]⟩
theorem textV_num {N : Int} {S : ByteArray} (h : valB 1 N S = true) : textV 1 N S = ⟨(Lib.itoa N).toArray⟩ := by simp [textV, h]
theorem textV_text {K N : Int} {S : ByteArray} (h : valB K N S = true) (hk : K ≠ 1) : textV K N S = ⟨#[39]⟩ ++ S ++ ⟨#[39]⟩ := by simp [textV, h, hk]
theorem textV_no {K N : Int} {S : ByteArray} (h : valB K N S = false) : textV K N S = ⟨#[]⟩ := by simp [textV, h]
theorem ta_num_num (n : Int) (w : World) : (Instr.typeAssert (.iface 66 (.int .i64 n)) 45 66 true).run Tryd.prog w = .ok (.tuple #[.int .i64 n, .bool true]) w := by kernel_rfl
theorem ta_nil_num (w : World) : (Instr.typeAssert .nilIface 45 66 true).run Tryd.prog w = .ok (.tuple #[.int .i64 0, .bool false]) w := by kernel_rfl
theorem ta_text_num (s : ByteArray) (w : World) : (Instr.typeAssert (.iface 68 (.string s)) 45 66 true).run Tryd.prog w = .ok (.tuple #[.int .i64 0, .bool false]) w := by kernel_rfl
theorem ta_nil_text (w : World) : (Instr.typeAssert .nilIface 45 68 true).run Tryd.prog w = .ok (.tuple #[.string ⟨#[]⟩, .bool false]) w := by kernel_rfl
theorem ta_text_text (s : ByteArray) (w : World) : (Instr.typeAssert (.iface 68 (.string s)) 45 68 true).run Tryd.prog w = .ok (.tuple #[.string s, .bool true]) w := by kernel_rfl

theorem valB_texts {K N : Int} {S : ByteArray} (h : valB K N S = true) (hk : K ≠ 1) : S.size ≤ 20 := by
  by_cases h2 : K = 2
  · subst h2
    rw [valB_text] at h
    exact textB_le (by simp at h; exact h.1)
  · rw [valB_none N S hk h2] at h; cases h

set_option maxHeartbeats 1600000 in
theorem textOfSpoken_any (K N : Int) (S : ByteArray) (w : World) (ht : Tab w) :
    Calls Tryd.prog 21 #[spokV K N S] w fun e w' => e = .returned (.string (textV K N S)) ∧ Below w.heap.size w w' := by
  have t1 := ta_num_num
  have t2 := ta_nil_num
  have t3 := ta_text_num
  have t4 := ta_nil_text
  have t5 := ta_text_text
  cases hv : valB K N S
  · rw [spokV_no hv, textV_no hv]
    go_enter Tryd.func21, Tryd.ntmps21
    go_wp2
    go_ret
    exact ⟨rfl, Below.refl _ _⟩
  · by_cases hK : K = 1
    · subst hK
      have hr := hide (show -1000000000 ≤ N ∧ N ≤ 1000000000 by
        by_cases hr : -1000000000 ≤ N ∧ N ≤ 1000000000
        · exact hr
        · rw [valB_out S hr] at hv; cases hv)
      rw [spokV_one hv, textV_num hv]
      have HTab := hide ht
      clear ht hv
      go_enter Tryd.func21, Tryd.ntmps21
      go_wp2_with fail
      refine (Tryd.strconv_Itoa N (by have := hr.out; omega) (by have := hr.out; omega) _ HTab.out).mono ?_
      rintro e w1 ⟨rfl, k, os, rfl⟩
      have hb := Lib.below_grow w.heap.size w (Nat.le_refl _) k os
      generalize Sort.grow (w.drewN k) os = w1 at hb ⊢
      generalize hT : (⟨(Lib.itoa N).toArray⟩ : ByteArray) = s
      have HT := hide hT
      clear hT
      go_wp2
      go_ret
      exact ⟨by rw [HT.out]; rfl, hb⟩
    · have e : spokV K N S = .iface 68 (.string S) := by unfold spokV; rw [hv, if_pos rfl, if_neg hK]
      have hS := valB_texts hv hK
      have hc1 : (ByteArray.mk #[39]).size = 1 := rfl
      rw [e, textV_text hv hK]
      clear e hK hv
      go_enter Tryd.func21, Tryd.ntmps21
      go_wp2
      go_ret
      exact ⟨rfl, Below.refl _ _⟩

set_option maxHeartbeats 1600000 in
theorem implValText_any (K N : Int) (S : ByteArray) (w : World) (hs : S.size ≤ maxLen) (ht : Tab w) :
    Calls Tryd.prog 7 #[.agg #[.int .i64 K, .int .i64 N, .string S]] w fun e w' => e = .returned (.string (textV K N S)) ∧ Below w.heap.size w w' := by
  have HTab := hide ht
  clear ht
  go_enter Tryd.func7, Tryd.ntmps7
  go_wp2_with fail
  refine (spokenOf_any K N S _ hs).mono ?_
  rintro e w1 ⟨rfl, hb⟩
  have hb1 : Below w.heap.size w w1 := ((Below.refl w.heap.size w).alloc (Nat.le_refl _) _).trans (hb.mono (by simp))
  clear hb
  go_wp2_with fail
  refine (textOfSpoken_any K N S w1 (HTab.out.later hb1 (Nat.le_refl _))).mono ?_
  rintro e w2 ⟨rfl, hb2⟩
  have hb3 : Below w.heap.size w w2 := hb1.trans (hb2.mono hb1.size)
  clear hb2
  generalize hT : textV K N S = s
  have HT := hide hT
  clear hT
  go_wp2
  go_ret
  exact ⟨by rw [HT.out]; rfl, hb3⟩

set_option maxHeartbeats 1600000 in
theorem l2Text_any (K N : Int) (S : ByteArray) (w : World) (hv : valB K N S = true) :
    Calls Tryd.prog 50 #[.agg #[.int .i64 K, .int .i64 N, .string S]] w fun e w' => e = .returned (.string (textV K N S)) ∧ Below w.heap.size w w' := by
  by_cases hK : K = 1
  · subst hK
    have hr : -1000000000 ≤ N ∧ N ≤ 1000000000 := by
      by_cases hr : -1000000000 ≤ N ∧ N ≤ 1000000000
      · exact hr
      · rw [valB_out S hr] at hv; cases hv
    obtain ⟨hr1, hr2⟩ := hr
    have HV := hide (textV_num hv)
    clear hv
    go_enter Tryd.func50, Tryd.ntmps50
    go_wp2_with fail
    refine (l2Num_any N _ hr1 hr2).mono ?_
    rintro e w1 ⟨s, rfl, hs, HS, hb⟩
    have hb1 : Below w.heap.size w w1 := ((Below.refl w.heap.size w).alloc (Nat.le_refl _) _).trans (hb.mono (by simp))
    clear hb
    go_wp2
    go_ret
    exact ⟨by rw [HV.out, ← HS.out]; rfl, hb1⟩
  · have hS := valB_texts hv hK
    have HV := hide (textV_text hv hK)
    have hc1 : (ByteArray.mk #[39]).size = 1 := rfl
    have hk : (K == 1) = false := by simpa using hK
    clear hv hK
    go_enter Tryd.func50, Tryd.ntmps50
    go_wp2
    go_ret
    exact ⟨by rw [HV.out]; rfl, by go_grown⟩

set_option maxHeartbeats 1600000 in
theorem specValText_any (K N : Int) (S : ByteArray) (w : World) (hs : S.size ≤ maxLen) :
    Calls Tryd.prog 32 #[.agg #[.int .i64 K, .int .i64 N, .string S]] w fun e w' => e = .returned (.string (textV K N S)) ∧ Below w.heap.size w w' := by
  go_enter Tryd.func32, Tryd.ntmps32
  go_wp2_with fail
  refine (specValOk_any K N S _ hs).mono ?_
  rintro e w1 ⟨rfl, g1⟩
  have hb : Below (w.alloc (.cells #[.int .i64 K, .int .i64 N, .string S] 25)).heap.size _ w1 := (Below.refl _ _).grown g1 (Nat.le_refl _) (fun k hk => by cases hk)
  have HA := hide (box_below (box_new w (.int .i64 K) (.int .i64 N) (.string S) 25) hb (by simp))
  have hb1 : Below w.heap.size w w1 := ((Below.refl w.heap.size w).alloc (Nat.le_refl _) _).trans (hb.mono (by simp))
  clear hb g1
  cases hv : valB K N S
  · have HV := hide (textV_no hv)
    clear hv
    go_wp2
    go_ret
    exact ⟨by rw [HV.out]; rfl, hb1⟩
  · obtain ⟨a0, a1, a2, -, -, -⟩ := box_cell HA.out
    have HV := hide hv
    clear hv HA
    go_wp2_with fail
    refine (l2Text_any K N S w1 HV.out).mono ?_
    rintro e w2 ⟨rfl, hb2⟩
    have hb3 : Below w.heap.size w w2 := hb1.trans (hb2.mono hb1.size)
    clear hb2
    generalize hT : textV K N S = s
    have HT := hide hT
    clear hT
    go_wp2
    go_ret
    exact ⟨by rw [HT.out]; rfl, hb3⟩
end Go.Proofs.YtofdbnkeddcdjaaDoor
/-
  What ParseVal answers, plainly: a number's one text (numV), or a text between two quotes; and that reading loosely, then writing and comparing, answers the same (number part).
-/
namespace Go.Proofs.YtofdbnkeddcdjaaDoor
open Go.Lib
set_option linter.unusedVariables false

theorem valB_whole (n : Int) : valB 1 n ⟨#[]⟩ = numOk n := by
  have : (ByteArray.mk #[]).size = 0 := rfl
  simp [valB, inB, numOk, this]
theorem valB_zero : valB 0 0 ⟨#[]⟩ = false := by simp [valB]

/-- a text's list and the text -/
theorem eq_mk {s : ByteArray} {l : List UInt8} : (⟨l.toArray⟩ : ByteArray) = s ↔ l = s.data.toList := by
  constructor
  · rintro rfl; simp
  · intro h; apply ByteArray.ext; rw [h]

/-- the number that a loose reading answers stands the test just where the text is that number's one text -/
theorem loose_ok {s : ByteArray} {n : Int} (h : atoiAll s.data.toList = .ok n) :
    (valB 1 n ⟨#[]⟩ = true ∧ textV 1 n ⟨#[]⟩ = s) ↔ numV s.data.toList = some n := by
  constructor
  · rintro ⟨hv, ht⟩
    rw [textV_num hv, eq_mk] at ht
    rw [← ht]
    exact numV_itoa (by rw [← valB_whole]; exact hv)
  · intro hn
    obtain ⟨hk, e⟩ := numV_some hn
    have hv : valB 1 n ⟨#[]⟩ = true := by rw [valB_whole]; exact hk
    exact ⟨hv, by rw [textV_num hv, eq_mk]; exact e.symm⟩
theorem loose_only {s : ByteArray} {n m : Int} (h : atoiAll s.data.toList = .ok n) (hm : numV s.data.toList = some m) : m = n := by
  obtain ⟨hk, e⟩ := numV_some hm
  have := atoi_itoa hk
  rw [← e, h] at this
  exact (by injection this with h; exact h.symm)
theorem loose_none {s : ByteArray} (h : ∀ n, atoiAll s.data.toList ≠ .ok n) : numV s.data.toList = none := by
  cases hn : numV s.data.toList with
  | none => rfl
  | some m =>
    obtain ⟨hk, e⟩ := numV_some hn
    exact absurd (by rw [e]; exact atoi_itoa hk) (h m)
end Go.Proofs.YtofdbnkeddcdjaaDoor
/-
  What strconv.Atoi answers: the number, or an error.
-/
namespace Go.Proofs.YtofdbnkeddcdjaaDoor
open Go.RowKit Go.Lib
set_option linter.unusedVariables false

/-- the library's two errors are there -/
def Errs (w : World) : Prop := (∃ tp p, w.var? Tryd.prog "strconv.ErrSyntax" = some #[.iface tp p]) ∧ (∃ tp p, w.var? Tryd.prog "strconv.ErrRange" = some #[.iface tp p])
theorem gSyn : ∃ g, Tryd.prog.globalNamed "strconv.ErrSyntax" = some g := Option.isSome_iff_exists.1 (by kernel_rfl)
theorem gRan : ∃ g, Tryd.prog.globalNamed "strconv.ErrRange" = some g := Option.isSome_iff_exists.1 (by kernel_rfl)
theorem Errs.later {w w' : World} {B : Nat} (h : Errs w) (hb : Below B w w') (hB : w.heap.size ≤ B) : Errs w' := by
  obtain ⟨⟨t1, p1, h1⟩, ⟨t2, p2, h2⟩⟩ := h
  obtain ⟨g, hg⟩ := gSyn
  obtain ⟨g', hg'⟩ := gRan
  exact ⟨⟨t1, p1, Joins.var_stays hg h1 hb hB⟩, ⟨t2, p2, Joins.var_stays hg' h2 hb hB⟩⟩

/-- what strconv.Atoi answers where it reads no number: an error, whatever stands beside it -/
theorem atoi_no (s : ByteArray) (w : World) (hs : s.size ≤ 1048576) (he : Errs w) (h : ∀ n, atoiAll s.data.toList ≠ .ok n) :
    Calls Tryd.prog 49 #[.string s] w fun e w' => ∃ (z : Int) (t : TypeId) (N : Nat), e = .returned (.tuple #[.int .i64 z, .iface t (.pointer (some ⟨N, 0, none⟩))]) ∧ Below w.heap.size w w' := by
  obtain ⟨⟨t1, p1, h1⟩, ⟨t2, p2, h2⟩⟩ := he
  cases hx : atoiAll s.data.toList with
  | ok n => exact absurd hx (h n)
  | «syntax» =>
    refine (Tryd.strconv_Atoi_syntax_var s (by omega) hx t1 p1 w h1).mono ?_
    rintro e w' ⟨N, rfl, _, _, hb⟩
    exact ⟨_, _, N, rfl, hb⟩
  | range =>
    refine (Tryd.strconv_Atoi_range_var s (by omega) hx t2 p2 w h2).mono ?_
    rintro e w' ⟨N, rfl, _, _, hb⟩
    exact ⟨_, _, N, rfl, hb⟩
theorem atoi_yes (s : ByteArray) (w : World) (n : Int) (hs : s.size ≤ 1048576) (h : atoiAll s.data.toList = .ok n) :
    Calls Tryd.prog 49 #[.string s] w fun e w' => e = .returned (.tuple #[.int .i64 n, .nilIface]) ∧ Below w.heap.size w w' := by
  refine (Tryd.strconv_Atoi_ok s (by omega) n h w).mono ?_
  rintro e w' ⟨rfl, rfl | ⟨t, rfl⟩⟩
  · exact ⟨rfl, Below.refl _ _⟩
  · exact ⟨rfl, Joins.below_bytesWorld _ _ _ _ (Nat.le_refl _)⟩
end Go.Proofs.YtofdbnkeddcdjaaDoor
/-
  What impl.looseVal answers: what stands between a text's first byte and its last, where the first is a quote; else the number that strconv.Atoi reads; else nothing.
-/
namespace Go.Proofs.YtofdbnkeddcdjaaDoor
open Go.RowKit Go.Lib
set_option linter.unusedVariables false

set_option maxHeartbeats 800000 in
theorem looseVal_quote (s : ByteArray) (w : World) (hs : s.size ≤ 1048576) (h2 : 2 ≤ s.size) (h0 : ((s[0]'(by omega)).toNat : Int) = 39) :
    Calls Tryd.prog 29 #[.string s] w fun e w' => e = .returned (.agg #[.int .i64 2, .int .i64 0, .string (s.extract 1 (s.size - 1))]) ∧ Below w.heap.size w w' := by
  have hl : (2 : Int) ≤ (s.size : Int) := by omega
  go_enter Tryd.func29, Tryd.ntmps29
  go_wp2
  obtain ⟨c0, c1, c2, -, -, -⟩ := box_cell (box_new w (.int .i64 2) (.int .i64 0) (.string (s.extract 1 (s.size - 1))) 25)
  exact bodyPost_ret (v := .agg #[.int .i64 2, .int .i64 0, .string (s.extract 1 (s.size - 1))]) (by simp only [results, Tryd.results29]; simp [go_sem, c0, c1, c2]) rfl ⟨rfl, (Below.refl w.heap.size w).alloc (Nat.le_refl _) _⟩

set_option maxHeartbeats 1600000 in
theorem looseVal_ok (s : ByteArray) (w : World) (n : Int) (hs : s.size ≤ 1048576) (h2 : s.size < 2 ∨ bat s 0 ≠ 39) (h : atoiAll s.data.toList = .ok n) :
    Calls Tryd.prog 29 #[.string s] w fun e w' => e = .returned (.agg #[.int .i64 1, .int .i64 n, .string ⟨#[]⟩]) ∧ Below w.heap.size w w' := by
  have H := hide h
  clear h
  by_cases hl : 2 ≤ s.size
  · have h0 : (((s[0]'(by omega)).toNat : Int) == 39) = false := by
      rcases h2 with h | h
      · omega
      · rw [bat_in (by omega)] at h; simpa using h
    have hl' : (2 : Int) ≤ (s.size : Int) := by omega
    clear h2
    go_enter Tryd.func29, Tryd.ntmps29
    go_wp2_with fail
    refine (atoi_yes s _ n hs H.out).mono ?_
    rintro e w1 ⟨rfl, hb⟩
    have HR := hide (box_below (box_new w (.int .i64 0) (.int .i64 0) (.string ⟨#[]⟩) 25) hb (by simp))
    have hB1 : Below w.heap.size w w1 := ((Below.refl w.heap.size w).alloc (Nat.le_refl _) _).trans (hb.mono (by simp))
    clear hb
    obtain ⟨c0, c1, c2, f0, f1, f2⟩ := box_cell HR.out
    go_wp2
    refine box_post HR.out (fun w4 h4 gr => ?_)
    clear c0 c1 c2 f0 f1 f2
    obtain ⟨c0, c1, c2, -, -, -⟩ := box_cell h4
    exact bodyPost_ret (v := .agg #[.int .i64 1, .int .i64 n, .string ⟨#[]⟩]) (by simp [results, Tryd.results29, go_sem, c0, c1, c2]) rfl ⟨rfl, below_set hB1 gr (by omega)⟩
  · have hl' : ¬ ((2 : Int) ≤ (s.size : Int)) := by omega
    clear h2
    go_enter Tryd.func29, Tryd.ntmps29
    go_wp2_with fail
    refine (atoi_yes s _ n hs H.out).mono ?_
    rintro e w1 ⟨rfl, hb⟩
    have HR := hide (box_below (box_new w (.int .i64 0) (.int .i64 0) (.string ⟨#[]⟩) 25) hb (by simp))
    have hB1 : Below w.heap.size w w1 := ((Below.refl w.heap.size w).alloc (Nat.le_refl _) _).trans (hb.mono (by simp))
    clear hb
    obtain ⟨c0, c1, c2, f0, f1, f2⟩ := box_cell HR.out
    go_wp2
    refine box_post HR.out (fun w4 h4 gr => ?_)
    clear c0 c1 c2 f0 f1 f2
    obtain ⟨c0, c1, c2, -, -, -⟩ := box_cell h4
    exact bodyPost_ret (v := .agg #[.int .i64 1, .int .i64 n, .string ⟨#[]⟩]) (by simp [results, Tryd.results29, go_sem, c0, c1, c2]) rfl ⟨rfl, below_set hB1 gr (by omega)⟩
set_option maxHeartbeats 1600000 in
theorem looseVal_no (s : ByteArray) (w : World) (hs : s.size ≤ 1048576) (h2 : s.size < 2 ∨ bat s 0 ≠ 39) (he : Errs w) (h : ∀ n, atoiAll s.data.toList ≠ .ok n) :
    Calls Tryd.prog 29 #[.string s] w fun e w' => e = .returned (.agg #[.int .i64 0, .int .i64 0, .string ⟨#[]⟩]) ∧ Below w.heap.size w w' := by
  have H := hide h
  have HE := hide he
  clear h he
  by_cases hl : 2 ≤ s.size
  · have h0 : (((s[0]'(by omega)).toNat : Int) == 39) = false := by
      rcases h2 with h | h
      · omega
      · rw [bat_in (by omega)] at h; simpa using h
    have hl' : (2 : Int) ≤ (s.size : Int) := by omega
    clear h2
    go_enter Tryd.func29, Tryd.ntmps29
    go_wp2_with fail
    refine (atoi_no s _ hs (HE.out.later ((Below.refl w.heap.size w).alloc (Nat.le_refl _) _) (Nat.le_refl _)) H.out).mono ?_
    rintro e w1 ⟨z, t, N, rfl, hb⟩
    have HR := hide (box_below (box_new w (.int .i64 0) (.int .i64 0) (.string ⟨#[]⟩) 25) hb (by simp))
    have hB1 : Below w.heap.size w w1 := ((Below.refl w.heap.size w).alloc (Nat.le_refl _) _).trans (hb.mono (by simp))
    clear hb
    obtain ⟨c0, c1, c2, f0, f1, f2⟩ := box_cell HR.out
    go_wp2
    refine box_post HR.out (fun w4 h4 gr => ?_)
    clear c0 c1 c2 f0 f1 f2
    obtain ⟨c0, c1, c2, -, -, -⟩ := box_cell h4
    exact bodyPost_ret (v := .agg #[.int .i64 0, .int .i64 0, .string ⟨#[]⟩]) (by simp [results, Tryd.results29, go_sem, c0, c1, c2]) rfl ⟨rfl, below_set hB1 gr (by omega)⟩
  · have hl' : ¬ ((2 : Int) ≤ (s.size : Int)) := by omega
    clear h2
    go_enter Tryd.func29, Tryd.ntmps29
    go_wp2_with fail
    refine (atoi_no s _ hs (HE.out.later ((Below.refl w.heap.size w).alloc (Nat.le_refl _) _) (Nat.le_refl _)) H.out).mono ?_
    rintro e w1 ⟨z, t, N, rfl, hb⟩
    have HR := hide (box_below (box_new w (.int .i64 0) (.int .i64 0) (.string ⟨#[]⟩) 25) hb (by simp))
    have hB1 : Below w.heap.size w w1 := ((Below.refl w.heap.size w).alloc (Nat.le_refl _) _).trans (hb.mono (by simp))
    clear hb
    obtain ⟨c0, c1, c2, f0, f1, f2⟩ := box_cell HR.out
    go_wp2
    refine box_post HR.out (fun w4 h4 gr => ?_)
    clear c0 c1 c2 f0 f1 f2
    obtain ⟨c0, c1, c2, -, -, -⟩ := box_cell h4
    exact bodyPost_ret (v := .agg #[.int .i64 0, .int .i64 0, .string ⟨#[]⟩]) (by simp [results, Tryd.results29, go_sem, c0, c1, c2]) rfl ⟨rfl, below_set hB1 gr (by omega)⟩
end Go.Proofs.YtofdbnkeddcdjaaDoor
/-
  What impl.ParseVal answers: what the loose reading answers, where that is a value whose one text is the given one; else nothing.
-/
namespace Go.Proofs.YtofdbnkeddcdjaaDoor
open Go.RowKit Go.Lib
set_option linter.unusedVariables false

/-- the answer, as the call gives it -/
def ansV (b : Bool) (K N : Int) (S : ByteArray) : Value := if b then .tuple #[.agg #[.int .i64 K, .int .i64 N, .string S], .bool true] else .tuple #[.agg #[.int .i64 0, .int .i64 0, .string ⟨#[]⟩], .bool false]

set_option maxRecDepth 100000 in
set_option maxHeartbeats 1600000 in
theorem implParse_of (s : ByteArray) (K N : Int) (S : ByteArray) (w : World) (hs : S.size ≤ maxLen) (ht : Tab w)
    (hL : ∀ W, Below w.heap.size w W → Calls Tryd.prog 29 #[.string s] W fun e w' => e = .returned (.agg #[.int .i64 K, .int .i64 N, .string S]) ∧ Below W.heap.size W w') :
    Calls Tryd.prog 12 #[.string s] w fun e w' => e = .returned (ansV (valB K N S && decide (textV K N S = s)) K N S) ∧ Below w.heap.size w w' := by
  have HTab := hide ht
  have HL := hide hL
  clear ht hL
  go_enter Tryd.func12, Tryd.ntmps12
  go_wp2_with fail
  refine (HL.out _ ((Below.refl w.heap.size w).alloc (Nat.le_refl _) _)).mono ?_
  rintro e w1 ⟨rfl, hb1⟩
  have HR := hide (box_below (box_new w (.int .i64 0) (.int .i64 0) (.string ⟨#[]⟩) 25) hb1 (by simp))
  have hB1 : Below w.heap.size w w1 := ((Below.refl w.heap.size w).alloc (Nat.le_refl _) _).trans (hb1.mono (by simp))
  have hz1 : w.heap.size + 1 ≤ w1.heap.size := by have := hb1.size; simp at this; omega
  clear hb1 HL
  go_wp2_with fail
  refine (implValOk_any K N S _ hs).mono ?_
  rintro e w2 ⟨rfl, hb2⟩
  have HV := hide (box_below (box_new w1 (.int .i64 K) (.int .i64 N) (.string S) 25) hb2 (by simp))
  have HR2 := hide (box_below (box_old HR.out (by omega) (.cells #[.int .i64 K, .int .i64 N, .string S] 25)) hb2 (by simp; omega))
  have hB2 : Below w.heap.size w w2 := (hB1.alloc hB1.size _).trans (hb2.mono (by have := hB1.size; simp; omega))
  have hz2 : w1.heap.size + 1 ≤ w2.heap.size := by have := hb2.size; simp at this; omega
  clear hb2 HR hB1
  cases hv : valB K N S
  · have HB := hide hv
    clear hv
    obtain ⟨c0, c1, c2, f0, f1, f2⟩ := box_cell HR2.out
    go_wp2
    refine box_post HR2.out (fun w4 h4 gr => ?_)
    clear c0 c1 c2 f0 f1 f2
    obtain ⟨c0, c1, c2, -, -, -⟩ := box_cell h4
    exact bodyPost_ret (v := .tuple #[.agg #[.int .i64 0, .int .i64 0, .string ⟨#[]⟩], .bool false]) (by simp [results, Tryd.results12, go_sem, c0, c1, c2]) rfl ⟨by rw [HB.out]; rfl, below_set hB2 gr (by omega)⟩
  · have HB := hide hv
    clear hv
    obtain ⟨d0, d1, d2, -, -, -⟩ := box_cell HV.out
    go_wp2_with fail
    refine (implValText_any K N S _ hs (HTab.out.later hB2 (Nat.le_refl _))).mono ?_
    rintro e w3 ⟨rfl, hb3⟩
    have HV3 := hide (box_below HV.out hb3 (by omega))
    have HR3 := hide (box_below HR2.out hb3 (by omega))
    have hB3 : Below w.heap.size w w3 := hB2.trans (hb3.mono hB2.size)
    clear hb3 HV HR2 hB2 d0 d1 d2
    generalize hT : textV K N S = tx
    have HT := hide hT
    clear hT
    obtain ⟨c0, c1, c2, f0, f1, f2⟩ := box_cell HR3.out
    obtain ⟨d0, d1, d2, -, -, -⟩ := box_cell HV3.out
    by_cases hx : tx = s
    · have e1 := (bytes_beq_iff tx s).2 hx
      have HX := hide hx
      clear hx
      go_wp2
      refine box_post HR3.out (fun w4 h4 gr => ?_)
      clear c0 c1 c2 f0 f1 f2 d0 d1 d2
      obtain ⟨c0, c1, c2, -, -, -⟩ := box_cell h4
      exact bodyPost_ret (v := .tuple #[.agg #[.int .i64 K, .int .i64 N, .string S], .bool true]) (by simp [results, Tryd.results12, go_sem, c0, c1, c2]) rfl ⟨by rw [HB.out, HT.out, decide_eq_true HX.out]; rfl, below_set hB3 gr (by omega)⟩
    · have e1 := (bytes_beq_false_iff tx s).2 hx
      have HX := hide hx
      clear hx
      go_wp2
      refine box_post HR3.out (fun w4 h4 gr => ?_)
      clear c0 c1 c2 f0 f1 f2 d0 d1 d2
      obtain ⟨c0, c1, c2, -, -, -⟩ := box_cell h4
      exact bodyPost_ret (v := .tuple #[.agg #[.int .i64 0, .int .i64 0, .string ⟨#[]⟩], .bool false]) (by simp [results, Tryd.results12, go_sem, c0, c1, c2]) rfl ⟨by rw [HB.out, HT.out, decide_eq_false HX.out]; rfl, below_set hB3 gr (by omega)⟩
end Go.Proofs.YtofdbnkeddcdjaaDoor
