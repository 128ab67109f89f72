/-
  Texts of this claim joined into one: Bytes, Bits, Num, TextR, ValR, VOk, FactOk, FactR, GetNum, GetTextS, GetValS, GetNumI, GetTextI, GetValI, LawVal, LawEq, LawFact, GetVals, AllP, AllQ, SumI, Box11, CompI, AllI.
-/
import Derived.Test.YtbellpalomiokabJoined1
import Derived.OpenShut
import Derived.BigQuiet
import Derived.Deep.QuietTactic
import Derived.Laws.BitsAllLaws
import Derived.Laws.IdiomStrings
import Derived.Laws.Bits128
import Derived.Handy
import Derived.Deep.RegionHeld3
import Derived.Deep.AppendLies
/-
  Rows of bytes: what a slice of bytes reads as (Rd), what a call's own row holds (vals), and the contracts of the laws' own helpers on them: toByteS copies, eqByteS tells whether two are the same.
-/
namespace Go.Proofs.Ytbellpalomiokab
open Go.RowKit
set_option linter.unusedVariables false

theorem Try.info5 : (Try.prog.info? 5).map (fun i => (i.zero, i.size, i.bytes)) = some (some (.int .u8 0), 1, 1) := by kernel_rfl

/-- the i-th byte as a number -/
def byteAt (bs : List UInt8) (i : Nat) : Int := ((bs.getD i 0).toNat : Int)
theorem byteAt_lo (bs : List UInt8) (i : Nat) : 0 ≤ byteAt bs i := by unfold byteAt; omega
theorem byteAt_hi (bs : List UInt8) (i : Nat) : byteAt bs i ≤ 255 := by
  unfold byteAt; have := (bs.getD i 0).toNat_lt; omega

def vals (bs : List UInt8) : List Value := bs.map (fun b => Value.int .u8 (b.toNat : Int))
theorem vals_length (bs : List UInt8) : (vals bs).length = bs.length := by simp [vals]
theorem vals_get {bs : List UInt8} {i : Nat} (h : i < bs.length) : (vals bs)[i]? = some (.int .u8 (byteAt bs i)) := by
  unfold vals byteAt
  rw [List.getElem?_map, List.getElem?_eq_getElem h]
  simp [List.getD, h]
theorem vals_append (a b : List UInt8) : vals (a ++ b) = vals a ++ vals b := by simp [vals]

/-- what the slice at 'a' reads as -/
def Rd (w : World) (a : Option Addr) (bs : List UInt8) : Prop :=
  ∀ i, i < bs.length → ∃ b off, a = some ⟨b, off, none⟩ ∧ w.cell? ⟨b, off + i, none⟩ = some (.int .u8 (byteAt bs i))

theorem Rd.open {w : World} {a : Option Addr} {bs : List UInt8} (h : Rd w a bs) (hp : 0 < bs.length) :
    ∃ b off, a = some ⟨b, off, none⟩ ∧ b < w.heap.size ∧ ∀ i, i < bs.length → w.cell? ⟨b, off + i, none⟩ = some (.int .u8 (byteAt bs i)) := by
  obtain ⟨b, off, rfl, h0⟩ := h 0 hp
  refine ⟨b, off, rfl, World.block_lt_of_cell? w _ h0, fun i hi => ?_⟩
  obtain ⟨b2, off2, e, h1⟩ := h i hi
  simp only [Option.some.injEq, Addr.mk.injEq] at e
  rw [e.1, e.2.1]; exact h1

theorem Rd.below {w w' : World} {a : Option Addr} {bs : List UInt8} (h : Rd w a bs) (hb : Below w.heap.size w w') : Rd w' a bs := by
  intro i hi
  obtain ⟨b, off, e, hc⟩ := h i hi
  exact ⟨b, off, e, by rw [hb.cell (p := ⟨b, off + i, none⟩) (World.block_lt_of_cell? w _ hc)]; exact hc⟩

theorem Rd.heap {w w' : World} {a : Option Addr} {bs : List UInt8} (h : Rd w a bs) (hb : w'.heap = w.heap) : Rd w' a bs := by
  intro i hi
  obtain ⟨b, off, e, hc⟩ := h i hi
  exact ⟨b, off, e, by rw [← hc]; simp [World.cell?, hb]⟩

/-- what a call's own row of bytes reads as -/
theorem rd_owns {w : World} {base n : Nat} {v : Value} {bs : List UInt8} (h : w.ownsRow base 5 1 v n (vals bs)) :
    ∃ a cap, v = .slice a bs.length cap ∧ Rd w a bs ∧ n = bs.length := by
  have hn : n = bs.length := by have := h.1; rw [vals_length] at this; omega
  subst hn
  rcases h.2 with ⟨rfl, h0⟩ | ⟨g, cap, cur, rfl, hb, hg, hnc, hcm, hsz, htake⟩
  · exact ⟨none, 0, by rw [h0], fun i hi => by omega, rfl⟩
  · refine ⟨_, cap, rfl, fun i hi => ⟨g, 0, rfl, ?_⟩, rfl⟩
    have := h.cellAt i (by omega)
    rw [vals_get hi] at this
    rw [← this]; simp

/-- the row of bytes that came in -/
def IsRow (k : IntKind) (w : World) (a : Option Addr) (len cap : Nat) (zs : List Int) : Prop :=
  (a = none ∧ len = 0 ∧ cap = 0 ∧ zs = []) ∨
  ∃ x, a = some x ∧ len ≤ cap ∧ cap ≤ maxLen ∧ zs.length = cap ∧ (∀ i, i < zs.length → w.cell? (x.add i) = some (.int k (zs.getD i 0))) ∧ ∀ n ∈ zs, (Lit.int k n).wf = true

theorem isRow_len {k : IntKind} {w : World} {a : Option Addr} {len cap : Nat} {zs : List Int} (h : IsRow k w a len cap zs) : len ≤ maxLen := by
  rcases h with ⟨rfl, rfl, rfl, rfl⟩ | ⟨x, rfl, hl, hm, hz, hcell, hwz⟩
  · exact Nat.zero_le _
  · exact Nat.le_trans hl hm
theorem below_drewN (B : Nat) (w : World) (n : Nat) : Below B w (w.drewN n) := ⟨rfl, rfl, rfl, Nat.le_refl _, fun _ _ => rfl⟩

theorem rd_row {w : World} {a : Option Addr} {len cap : Nat} {zs : List Int} (h : IsRow .u8 w a len cap zs) :
    ∃ bs : List UInt8, bs.length = len ∧ Rd w a bs := by
  rcases h with ⟨rfl, rfl, rfl, rfl⟩ | ⟨x, rfl, hl, hm, hz, hcell, hwz⟩
  · exact ⟨[], rfl, fun i hi => by simp at hi⟩
  · refine ⟨(zs.take len).map (fun n => UInt8.ofNat n.toNat), by simp; omega, fun i hi => ?_⟩
    have hi2 : i < len := by simp at hi; omega
    obtain ⟨b, off, spot⟩ := x
    have hc := hcell i (by omega)
    have hs : spot = none := by
      have h0 := hcell 0 (by omega)
      simpa [Addr.add] using World.cell?_spot h0
    subst hs
    refine ⟨b, off, rfl, ?_⟩
    have e : (⟨b, off, none⟩ : Addr).add i = ⟨b, off + i, none⟩ := Addr.add_lit _ _ _
    rw [e] at hc
    rw [hc]
    have hiz : i < zs.length := by omega
    have hw := hwz zs[i] (List.getElem_mem hiz)
    have hb := bounds_u8 hw
    unfold byteAt
    simp [List.getD, hiz, hi2]
    omega

theorem rd_cells {w : World} {p : Addr} {bs : List UInt8} (hr : Rd w (some p) bs) : ∀ j u, (vals bs)[j]? = some u → w.cell? (p.add j) = some u := by
  intro j u hj
  have hl : j < bs.length := by have := (List.getElem?_eq_some_iff.1 hj).1; rw [vals_length] at this; exact this
  rw [vals_get hl] at hj
  obtain ⟨b, off, e, hc⟩ := hr j hl
  simp only [Option.some.injEq] at e
  subst e
  rw [Addr.add_lit, hc]; exact hj

/-- a row of the call's own, at hand for the readers -/
theorem rd_owns_cap {w : World} {base n : Nat} {v : Value} {bs : List UInt8} (h : w.ownsRow base 5 1 v n (vals bs)) :
    ∃ a cap, v = .slice a bs.length cap ∧ Rd w a bs ∧ bs.length ≤ cap ∧ (a = none → bs.length = 0 ∧ cap = 0) := by
  have hn : n = bs.length := by have := h.1; rw [vals_length] at this; omega
  subst hn
  obtain ⟨a, cap, e, hr, -⟩ := rd_owns h
  rcases h.2 with ⟨h1, h0⟩ | ⟨g, cap', cur, h1, hb, hg, hnc, hcm, hsz, htake⟩
  · rw [e] at h1
    simp only [Value.slice.injEq] at h1
    exact ⟨a, cap, e, hr, by omega, fun _ => ⟨h0, h1.2.2⟩⟩
  · rw [e] at h1
    simp only [Value.slice.injEq] at h1
    exact ⟨a, cap, e, hr, by omega, fun hh => by rw [h1.1] at hh; cases hh⟩

end Go.Proofs.Ytbellpalomiokab
/-
  Plain facts on bits of an int that is not below 0.
-/
namespace Go.Proofs.Ytbellpalomiokab
open Go.RowKit
set_option linter.unusedVariables false

theorem i64_xor_nat (a b : Nat) (ha : a < 9223372036854775808) (hb : b < 9223372036854775808) : bits .xor .i64 (a : Int) (b : Int) = ((a ^^^ b : Nat) : Int) := by
  have hx : a ^^^ b < 2 ^ 63 := Nat.xor_lt_two_pow (by omega) (by omega)
  show IntKind.i64.wrap ((BitVec.ofInt 64 (a : Int) ^^^ BitVec.ofInt 64 (b : Int)).toNat : Int) = _
  rw [BitVec.toNat_xor, ofInt_u64 a (by omega), ofInt_u64 b (by omega)]
  exact IntWalk.i64_in _ (by omega)
theorem i64_and_nat (a b : Nat) (ha : a < 9223372036854775808) (hb : b < 9223372036854775808) : bits .and .i64 (a : Int) (b : Int) = ((a &&& b : Nat) : Int) := by
  have hx : a &&& b < 2 ^ 63 := Nat.and_lt_two_pow _ (by omega)
  show IntKind.i64.wrap ((BitVec.ofInt 64 (a : Int) &&& BitVec.ofInt 64 (b : Int)).toNat : Int) = _
  rw [BitVec.toNat_and, ofInt_u64 a (by omega), ofInt_u64 b (by omega)]
  exact IntWalk.i64_in _ (by omega)
theorem i64_or_nat (a b : Nat) (ha : a < 9223372036854775808) (hb : b < 9223372036854775808) : bits .or .i64 (a : Int) (b : Int) = ((a ||| b : Nat) : Int) := by
  have hx : a ||| b < 2 ^ 63 := Nat.or_lt_two_pow (by omega) (by omega)
  show IntKind.i64.wrap ((BitVec.ofInt 64 (a : Int) ||| BitVec.ofInt 64 (b : Int)).toNat : Int) = _
  rw [BitVec.toNat_or, ofInt_u64 a (by omega), ofInt_u64 b (by omega)]
  exact IntWalk.i64_in _ (by omega)

theorem u8_and127 (c : Int) (h0 : 0 ≤ c) (h1 : c ≤ 255) : bits .and .u8 c 127 = c % 128 := by
  have := u8_and c 127 h0 (by omega) (by omega) (by omega)
  rw [this, show (127 : Int).toNat = 127 from rfl, nat_mask7]
  omega

/-- the sum's step on one bit -/
def cstep (x : Nat) : Nat := if x % 2 = 1 then (x / 2) ^^^ 2197175160 else x / 2
def cstepN : Nat → Nat → Nat
  | 0, x => x
  | k + 1, x => cstep (cstepN k x)
def cbyte (x c : Nat) : Nat := cstepN 8 (x ^^^ c)
theorem cstep_lt {x : Nat} (h : x < 4294967296) : cstep x < 4294967296 := by
  unfold cstep
  split
  · exact Nat.xor_lt_two_pow (n := 32) (by omega) (by omega)
  · omega
theorem cstepN_lt {x : Nat} (h : x < 4294967296) : ∀ k, cstepN k x < 4294967296
  | 0 => h
  | k + 1 => cstep_lt (cstepN_lt h k)
theorem cxor_lt {x c : Nat} (h : x < 4294967296) (hc : c < 4294967296) : x ^^^ c < 4294967296 := Nat.xor_lt_two_pow (n := 32) (by omega) (by omega)
theorem cbyte_lt {x c : Nat} (h : x < 4294967296) (hc : c < 256) : cbyte x c < 4294967296 := cstepN_lt (cxor_lt h (by omega)) 8
end Go.Proofs.Ytbellpalomiokab
/-
  Numbers in bytes, plainly: what GetNum reads (numR) and what PutNum writes (encN), and that they are inverse. No program is spoken of here.
-/
namespace Go.Proofs.Ytbellpalomiokab
open Go.RowKit
set_option linter.unusedVariables false

def accN (bs : List UInt8) (A : Nat) : Nat → Nat
  | 0 => 0
  | k + 1 => accN bs A k + (byteAt bs (A + k)).toNat % 128 * 128 ^ k
theorem accN_lt (bs : List UInt8) (A : Nat) : ∀ k, accN bs A k < 128 ^ k
  | 0 => by show 0 < 1; omega
  | k + 1 => by
    have h := accN_lt bs A k
    show accN bs A k + (byteAt bs (A + k)).toNat % 128 * 128 ^ k < 128 ^ (k + 1)
    have h2 : (byteAt bs (A + k)).toNat % 128 ≤ 127 := by omega
    have h3 := Nat.mul_le_mul_right (128 ^ k) h2
    rw [Nat.pow_succ]
    omega
/-- where the last group of a number stands: the first byte below 128, at most five bytes on -/
def scanN (bs : List UInt8) (A : Nat) : Nat → Nat → Option Nat
  | 0, _ => none
  | f + 1, k => if A + k < bs.length then (if byteAt bs (A + k) < 128 then some k else scanN bs A f (k + 1)) else none
def unfN (m : Nat) : Int := if m % 2 = 1 then -((m / 2 : Nat) : Int) - 1 else ((m / 2 : Nat) : Int)
/-- what GetNum answers -/
def numR (bs : List UInt8) (at' : Int) : Int × Int × Bool :=
  if at' < 0 then (0, 0, false)
  else match scanN bs at'.toNat 5 0 with
    | none => (0, 0, false)
    | some k => if (k ≠ 0 ∧ byteAt bs (at'.toNat + k) = 0) ∨ 2000000000 < accN bs at'.toNat (k + 1) then (0, 0, false)
      else (unfN (accN bs at'.toNat (k + 1)), at' + k + 1, true)

theorem scanN_out {bs : List UInt8} {A : Nat} (h : bs.length ≤ A) (f k : Nat) : scanN bs A f k = none := by
  cases f with
  | zero => rfl
  | succ f => unfold scanN; rw [if_neg (by omega)]
theorem or_acc {a x k : Nat} (ha : a < 128 ^ k) : a ||| (x * 128 ^ k) = a + x * 128 ^ k := by
  have e : (128 : Nat) ^ k = 2 ^ (7 * k) := by rw [Nat.pow_mul]
  rw [e] at ha ⊢
  rw [Nat.or_comm, Nat.add_comm]
  exact nat_join (7 * k) (x * 2 ^ (7 * k)) a (Nat.mul_mod_left _ _) ha
theorem pow128_le {k : Nat} (h : k ≤ 5) : 128 ^ k ≤ 34359738368 := by
  have : (128 : Nat) ^ k ≤ 128 ^ 5 := Nat.pow_le_pow_right (by omega) h
  exact this
theorem or_step {m k : Nat} {c : Int} (hm : m < 128 ^ k) (hk : k < 5) (h0 : 0 ≤ c) (h1 : c ≤ 255) :
    bits .or .i64 (m : Int) (wrap64 (c % 128 * 2 ^ (7 * k))) = ((m + c.toNat % 128 * 128 ^ k : Nat) : Int) := by
  obtain ⟨d, rfl⟩ := Int.eq_ofNat_of_zero_le h0
  have hp := pow128_le (k := k) (by omega)
  have e : ((d : Int) % 128 * 2 ^ (7 * k)) = ((d % 128 * 128 ^ k : Nat) : Int) := by
    have e2 : ((2 : Int) ^ (7 * k)) = ((128 ^ k : Nat) : Int) := by
      rw [show (128 : Nat) ^ k = 2 ^ (7 * k) by rw [Nat.pow_mul]]
      exact (Int.natCast_pow 2 (7 * k)).symm
    rw [e2, Int.natCast_mul]
    rfl
  have hb : d % 128 * 128 ^ k ≤ 127 * 34359738368 := Nat.mul_le_mul (by omega) hp
  rw [e, IntWalk.wrap64_in _ (by omega), i64_or_nat _ _ (by omega) (by omega), or_acc hm]
  simp
theorem scanN_end {bs : List UInt8} {A k : Nat} (h5 : k < 5) (h : ¬ A + k < bs.length) : scanN bs A (5 - k) k = none := by
  rw [show 5 - k = (4 - k) + 1 by omega]
  unfold scanN
  rw [if_neg h]
theorem scanN_last {bs : List UInt8} {A k : Nat} (h5 : k < 5) (h : A + k < bs.length) (hc : byteAt bs (A + k) < 128) : scanN bs A (5 - k) k = some k := by
  rw [show 5 - k = (4 - k) + 1 by omega]
  unfold scanN
  rw [if_pos h, if_pos hc]
theorem scanN_more {bs : List UInt8} {A k : Nat} (h5 : k < 5) (h : A + k < bs.length) (hc : ¬ byteAt bs (A + k) < 128) : scanN bs A (5 - k) k = scanN bs A (5 - (k + 1)) (k + 1) := by
  rw [show 5 - k = (5 - (k + 1)) + 1 by omega]
  rw [scanN, if_pos h, if_neg hc]
theorem scanN_ge {bs : List UInt8} {A : Nat} : ∀ f k r, scanN bs A f k = some r → k ≤ r ∧ r < k + f
  | 0, k, r, h => by simp [scanN] at h
  | f + 1, k, r, h => by
    unfold scanN at h
    split at h
    · split at h
      · simp at h; omega
      · have := scanN_ge f (k + 1) r h; omega
    · simp at h
theorem scanN_lt {bs : List UInt8} {A r : Nat} (h : scanN bs A 5 0 = some r) : r < 5 := by have := scanN_ge 5 0 r h; omega
theorem numR_none {bs : List UInt8} {A : Nat} (h : scanN bs A 5 0 = none) : numR bs (A : Int) = (0, 0, false) := by
  unfold numR
  rw [if_neg (by omega), Int.toNat_natCast, h]
theorem numR_some {bs : List UInt8} {A k : Nat} (h : scanN bs A 5 0 = some k) : numR bs (A : Int) = if (k ≠ 0 ∧ byteAt bs (A + k) = 0) ∨ 2000000000 < accN bs A (k + 1) then (0, 0, false) else (unfN (accN bs A (k + 1)), (A : Int) + k + 1, true) := by
  unfold numR
  rw [if_neg (by omega), Int.toNat_natCast, h]
theorem numR_neg {bs : List UInt8} {a : Int} (h : a < 0) : numR bs a = (0, 0, false) := by
  unfold numR
  rw [if_pos h]
theorem numR_past {bs : List UInt8} {a : Int} (h : (bs.length : Int) ≤ a) : numR bs a = (0, 0, false) := by
  obtain ⟨A, rfl⟩ := Int.eq_ofNat_of_zero_le (show 0 ≤ a by omega)
  exact numR_none (scanN_out (by omega) _ _)
theorem unfN_odd {m : Nat} (h : m % 2 = 1) : unfN m = -((m : Int) / 2) - 1 := by unfold unfN; rw [if_pos h]; omega
theorem unfN_even {m : Nat} (h : ¬ m % 2 = 1) : unfN m = (m : Int) / 2 := by unfold unfN; rw [if_neg h]; omega
theorem unfN_in (m : Nat) : inB (unfN m) (-1000000000) 1000000000 = !decide (2000000000 < m) := by
  by_cases h : m % 2 = 1
  · rw [unfN_odd h]
    by_cases h2 : 2000000000 < m
    · rw [inB_f (by omega)]; simp [h2]
    · rw [inB_t (by omega)]; simp [h2]
  · rw [unfN_even h]
    by_cases h2 : 2000000000 < m
    · rw [inB_f (by omega)]; simp [h2]
    · rw [inB_t (by omega)]; simp [h2]
theorem ret_num {bs : List UInt8} {A : Nat} {x y : Int} {z : Bool} (h : numR bs (A : Int) = (x, y, z)) :
    Ending.returned (.tuple #[.int .i64 x, .int .i64 y, .bool z]) = .returned (.tuple #[.int .i64 (numR bs (A : Int)).1, .int .i64 (numR bs (A : Int)).2.1, .bool (numR bs (A : Int)).2.2]) := by rw [h]

/-- what the groups at a place hold: the number as it was folded, the place behind, whether the form is the shortest -/
def grpR (bs : List UInt8) (A : Nat) : Int × Int × Bool :=
  match scanN bs A 5 0 with
  | none => (0, 0, false)
  | some k => (((accN bs A (k + 1) : Nat) : Int), (A : Int) + k + 1, k == 0 || byteAt bs (A + k) != 0)
theorem grpR_none {bs : List UInt8} {A : Nat} (h : scanN bs A 5 0 = none) : grpR bs A = (0, 0, false) := by unfold grpR; rw [h]
theorem grpR_some {bs : List UInt8} {A k : Nat} (h : scanN bs A 5 0 = some k) : grpR bs A = (((accN bs A (k + 1) : Nat) : Int), (A : Int) + k + 1, k == 0 || byteAt bs (A + k) != 0) := by unfold grpR; rw [h]
theorem ret_grp {bs : List UInt8} {A : Nat} {x y : Int} {z : Bool} (h : grpR bs A = (x, y, z)) :
    Ending.returned (.tuple #[.int .i64 x, .int .i64 y, .bool z]) = .returned (.tuple #[.int .i64 (grpR bs A).1, .int .i64 (grpR bs A).2.1, .bool (grpR bs A).2.2]) := by rw [h]
/-- the number out of its groups -/
theorem numR_grp (bs : List UInt8) (A : Nat) : ∃ M : Nat, M < 34359738368 ∧ (grpR bs A).1 = (M : Int) ∧
    numR bs (A : Int) = if (grpR bs A).2.2 = false ∨ 2000000000 < M then (0, 0, false) else (unfN M, (grpR bs A).2.1, true) := by
  cases h : scanN bs A 5 0 with
  | none => exact ⟨0, by omega, by rw [grpR_none h]; rfl, by rw [numR_none h, grpR_none h]; simp⟩
  | some k =>
    have hk : k < 5 := scanN_lt h
    have hlt := accN_lt bs A (k + 1)
    have hp := pow128_le (k := k + 1) (by omega)
    refine ⟨accN bs A (k + 1), by omega, by rw [grpR_some h], ?_⟩
    rw [numR_some h, grpR_some h]
    by_cases h1 : k = 0 <;> by_cases h2 : byteAt bs (A + k) = 0 <;> by_cases h3 : 2000000000 < accN bs A (k + 1) <;> simp [h1, h2, h3]

theorem scanN_some {bs : List UInt8} {A : Nat} : ∀ f k r, scanN bs A f k = some r → A + r < bs.length
  | 0, k, r, h => by simp [scanN] at h
  | f + 1, k, r, h => by
    unfold scanN at h
    split at h
    · split at h
      · simp at h; omega
      · exact scanN_some f (k + 1) r h
    · simp at h
/-- a number that was read lies within the bytes -/
theorem numR_true {bs : List UInt8} {x : Int} (h : (numR bs x).2.2 = true) : 0 ≤ x ∧ x < (numR bs x).2.1 ∧ (numR bs x).2.1 ≤ bs.length := by
  by_cases h0 : x < 0
  · rw [numR_neg h0] at h; cases h
  · obtain ⟨A, rfl⟩ := Int.eq_ofNat_of_zero_le (show 0 ≤ x by omega)
    cases hs : scanN bs A 5 0 with
    | none => rw [numR_none hs] at h; cases h
    | some k =>
      rw [numR_some hs] at h ⊢
      split at h
      · cases h
      · rename_i hc
        rw [if_neg hc]
        have := scanN_some 5 0 k hs
        simp only
        omega
end Go.Proofs.Ytbellpalomiokab
/-
  Texts in bytes, plainly: what GetText reads. And a slice of bytes turned into a text.
-/
namespace Go.Proofs.Ytbellpalomiokab
open Go.RowKit
set_option linter.unusedVariables false

/-- what GetText answers -/
def textR (bs : List UInt8) (x : Int) : ByteArray × Int × Bool :=
  if (numR bs x).2.2 = false ∨ (numR bs x).1 < 0 ∨ (bs.length : Int) - (numR bs x).2.1 < (numR bs x).1 then (ByteArray.empty, 0, false)
  else (⟨((bs.drop (numR bs x).2.1.toNat).take (numR bs x).1.toNat).toArray⟩, (numR bs x).2.1 + (numR bs x).1, true)
theorem textR_no {bs : List UInt8} {x : Int} (h : (numR bs x).2.2 = false ∨ (numR bs x).1 < 0 ∨ (bs.length : Int) - (numR bs x).2.1 < (numR bs x).1) : textR bs x = (ByteArray.empty, 0, false) := by
  unfold textR; rw [if_pos h]
theorem textR_yes (bs : List UInt8) (x : Int) (P N : Nat) (h : ¬ ((numR bs x).2.2 = false ∨ (numR bs x).1 < 0 ∨ (bs.length : Int) - (numR bs x).2.1 < (numR bs x).1)) (hP : (numR bs x).2.1 = P) (hN : (numR bs x).1 = N) :
    textR bs x = (⟨((bs.drop P).take N).toArray⟩, (P : Int) + N, true) := by
  unfold textR; rw [if_neg h, hP, hN]; rfl
theorem ret_text {bs : List UInt8} {x : Int} {s : ByteArray} {y : Int} {z : Bool} (h : textR bs x = (s, y, z)) :
    Ending.returned (.tuple #[.string s, .int .i64 y, .bool z]) = .returned (.tuple #[.string (textR bs x).1, .int .i64 (textR bs x).2.1, .bool (textR bs x).2.2]) := by rw [h]

theorem conv_part {b off P N : Nat} {bs : List UInt8} {w : World} (h : P + N ≤ bs.length) (hc : ∀ i, i < bs.length → w.cell? ⟨b, off + i, none⟩ = some (.int .u8 (byteAt bs i))) (c' : Nat) :
    (convert 22 9 (.slice (some ⟨b, off + P, none⟩) N c')).run Try.prog w = .ok (.string ⟨((bs.drop P).take N).toArray⟩) w := by
  have hl : ((bs.drop P).take N).length = N := by simp; omega
  have := run_convert_bytes_back (P := Try.prog) w 22 9 5 ⟨b, off + P, none⟩ c' ((bs.drop P).take N) Try.underlying22 Try.underlying5 Try.underlying9 (fun j hj => by
    have hj2 : j < N := by omega
    rw [Addr.add_lit, Nat.add_assoc, hc (P + j) (by omega)]
    unfold byteAt
    simp [List.getD, show P + j < bs.length by omega])
  rw [hl] at this
  exact this

end Go.Proofs.Ytbellpalomiokab
/-
  Values in bytes, plainly: what GetVal reads.
-/
namespace Go.Proofs.Ytbellpalomiokab
open Go.RowKit
set_option linter.unusedVariables false

theorem numR_false {bs : List UInt8} {x : Int} (h : (numR bs x).2.2 = false) : numR bs x = (0, 0, false) := by
  by_cases h0 : x < 0
  · exact numR_neg h0
  · obtain ⟨A, rfl⟩ := Int.eq_ofNat_of_zero_le (show 0 ≤ x by omega)
    cases hs : scanN bs A 5 0 with
    | none => exact numR_none hs
    | some k =>
      rw [numR_some hs] at h ⊢
      split at h
      · rename_i hc; rw [if_pos hc]
      · simp at h
theorem textR_size (bs : List UInt8) (x : Int) : (textR bs x).1.size ≤ bs.length := by
  unfold textR
  split
  · exact Nat.zero_le _
  · show (((bs.drop _).take _).toArray).size ≤ _
    simp; omega

/-- what GetVal answers -/
def valR (bs : List UInt8) (x : Int) : Int × Int × ByteArray × Int × Bool :=
  if (numR bs x).2.2 = false then (0, 0, ⟨#[]⟩, 0, false)
  else if (numR bs x).1 = 1 then
    if (numR bs (numR bs x).2.1).2.2 && valB 1 (numR bs (numR bs x).2.1).1 ⟨#[]⟩ then (1, (numR bs (numR bs x).2.1).1, ⟨#[]⟩, (numR bs (numR bs x).2.1).2.1, true) else (0, 0, ⟨#[]⟩, 0, false)
  else
    if (textR bs (numR bs x).2.1).2.2 && valB (numR bs x).1 0 (textR bs (numR bs x).2.1).1 then ((numR bs x).1, 0, (textR bs (numR bs x).2.1).1, (textR bs (numR bs x).2.1).2.1, true) else (0, 0, ⟨#[]⟩, 0, false)
def valT (r : Int × Int × ByteArray × Int × Bool) : Value := .tuple #[.agg #[.int .i64 r.1, .int .i64 r.2.1, .string r.2.2.1], .int .i64 r.2.2.2.1, .bool r.2.2.2.2]
theorem valR_no {bs : List UInt8} {x : Int} (h : (numR bs x).2.2 = false) : valR bs x = (0, 0, ⟨#[]⟩, 0, false) := by unfold valR; rw [if_pos h]
theorem valR_num {bs : List UInt8} {x p n q : Int} {b : Bool} (h : numR bs x = (1, p, true)) (h2 : numR bs p = (n, q, b)) :
    valR bs x = if b && valB 1 n ⟨#[]⟩ then (1, n, ⟨#[]⟩, q, true) else (0, 0, ⟨#[]⟩, 0, false) := by
  unfold valR; rw [h, if_neg (by simp), if_pos rfl, h2]
theorem valR_text {bs : List UInt8} {x k p q : Int} {s : ByteArray} {b : Bool} (h : numR bs x = (k, p, true)) (hk : k ≠ 1) (h2 : textR bs p = (s, q, b)) :
    valR bs x = if b && valB k 0 s then (k, 0, s, q, true) else (0, 0, ⟨#[]⟩, 0, false) := by
  unfold valR; rw [h, if_neg (by simp), if_neg hk, h2]
theorem ret_val {bs : List UInt8} {x : Int} {r : Int × Int × ByteArray × Int × Bool} (h : valR bs x = r) : Ending.returned (valT r) = .returned (valT (valR bs x)) := by rw [h]
end Go.Proofs.Ytbellpalomiokab
/-
  When a value is right, of its three parts at once.
-/
namespace Go.Proofs.Ytbellpalomiokab

def V3.ok (v : V3) : Bool := valB v.K v.N v.S
end Go.Proofs.Ytbellpalomiokab
/-
  What the functions on a fact's rightness answer: factB, the tested one and the model alike.
-/
namespace Go.Proofs.Ytbellpalomiokab
open Go.RowKit
set_option linter.unusedVariables false

def factB (kd : ByteArray) (L : List V3) : Bool := nameB kd && decide (L.length ≤ 5) && L.all V3.ok
theorem all_no {L : List V3} {k : Nat} (hk : k < L.length) (h : valB (vAt L k).K (vAt L k).N (vAt L k).S = false) : L.all V3.ok = false := by
  rw [Bool.eq_false_iff]
  intro ha
  have := List.all_eq_true.1 ha L[k] (List.getElem_mem hk)
  rw [← vAt_in hk] at this
  unfold V3.ok at this
  rw [h] at this; cases this
theorem all_yes {L : List V3} (h : ∀ k, k < L.length → valB (vAt L k).K (vAt L k).N (vAt L k).S = true) : L.all V3.ok = true := by
  rw [List.all_eq_true]
  intro v hv
  obtain ⟨k, hk, rfl⟩ := List.getElem_of_mem hv
  rw [← vAt_in hk]; exact h k hk
theorem below_gn {w w' : World} (h : w.grownBy w' none) : Below w.heap.size w w' := (Below.refl _ _).grown h (Nat.le_refl _) (fun k hk => by cases hk)

set_option maxHeartbeats 1600000 in
theorem l3Vals_any (a : Option Addr) (cap : Nat) (L : List V3) (w : World) (hr : RdV w a L) (hs : ∀ v ∈ L, v.S.size ≤ maxLen) (hm : L.length ≤ 1048580) :
    Calls Try.prog 63 #[.slice a L.length cap] w fun e w' =>
      e = .returned (.bool (L.all V3.ok && decide (L.length ≤ 5))) ∧ Below w.heap.size w w' := by
  obtain ⟨n, hN⟩ : ∃ n, n = L.length := ⟨_, rfl⟩
  rw [← hN] at hm ⊢
  have HN := hide hN
  have HS := hide hs
  clear hN hs
  go_enter Try.func63, Try.ntmps63
  go_wp2
  go_loopw [3] (fun i wr => ∃ (k : Nat), k ≤ n ∧ i = .int .i64 k ∧ (∀ j, j < k → valB (vAt L j).K (vAt L j).N (vAt L j).S = true) ∧ Below w.heap.size w wr) (fun i _ => n - (intOf i).toNat)
  case atStart => exact ⟨0, Nat.zero_le _, rfl, fun j hj => absurd hj (Nat.not_lt_zero _), Below.refl _ _⟩
  case round =>
    obtain ⟨k, hk, rfl, hall, hbel⟩ := hrel
    have HA := hide hall
    clear hall
    by_cases hlt : k < n
    · obtain ⟨b, off, hab, hbw, hc⟩ := hr.open (by rw [← HN.out]; omega)
      obtain ⟨c0, c1, c2⟩ := hc k (by rw [← HN.out]; exact hlt)
      clear hc
      subst hab
      rw [← hbel.cell (p := ⟨b, off + k * 3, none⟩) hbw] at c0
      rw [← hbel.cell (p := ⟨b, off + k * 3 + 1, none⟩) hbw] at c1
      rw [← hbel.cell (p := ⟨b, off + k * 3 + 2, none⟩) hbw] at c2
      have hS : (vAt L k).S.size ≤ maxLen := by rw [vAt_in (by rw [← HN.out]; exact hlt)]; exact HS.out _ (List.getElem_mem _)
      go_wp2_with fail
      refine (specValOk_any _ _ _ _ hS).mono ?_
      rintro e w2 ⟨rfl, g2⟩
      have hbel2 : Below w.heap.size w w2 := hbel.trans ((below_gn g2).mono hbel.size)
      clear g2 hS c0 c1 c2 hbel
      cases hv : valB (vAt L k).K (vAt L k).N (vAt L k).S
      · have HV := hide (all_no (by rw [← HN.out]; exact hlt) hv)
        clear hv
        go_wp2
        go_ret
        exact ⟨ret_bool (by rw [HV.out]; rfl), hbel2⟩
      · have HV := hide hv
        clear hv
        go_wp2
        go_roundw
        case rel => exact ⟨k + 1, by omega, by go_num, fun j hj => by
            by_cases hjk : j = k
            · rw [hjk]; exact HV.out
            · exact HA.out j (by omega), hbel2⟩
        case measure => simp [intOf]; omega
    · have HV : Hid (L.all V3.ok = true) := all_yes (fun j hj => HA.out j (by rw [← HN.out] at hj; omega))
      have HD : Hid (decide ((n : Int) ≤ 5) = decide (n ≤ 5)) := by unfold Hid; exact decide_eq_decide.2 (by omega)
      go_wp2
      go_ret
      exact ⟨ret_bool (by rw [HV.out, Bool.true_and]; exact HD.out), hbel⟩

set_option maxHeartbeats 1600000 in
theorem specFactOk_any (kd : ByteArray) (a : Option Addr) (cap : Nat) (L : List V3) (w : World) (hkd : kd.size ≤ maxLen) (hr : RdV w a L) (hs : ∀ v ∈ L, v.S.size ≤ maxLen) (hm : L.length ≤ 1048580) :
    Calls Try.prog 30 #[.agg #[.string kd, .slice a L.length cap]] w fun e w' =>
      e = .returned (.bool (factB kd L)) ∧ Below w.heap.size w w' := by
  have HF : Hid (factB kd L = (nameB kd && (L.all V3.ok && decide (L.length ≤ 5)))) := by unfold Hid factB; rw [Bool.and_assoc, Bool.and_comm (decide _)]
  have b0 := below_al w (.cells #[.string kd, .slice a L.length cap] 25)
  cases hn : nameB kd
  · rw [hn] at HF
    go_enter Try.func30, Try.ntmps30
    go_wp2_with (go_at_call 62; refine (specNameOk_any _ _ hkd).mono ?_; rintro e w' ⟨rfl, rfl⟩)
    go_ret
    exact ⟨ret_bool HF.out.symm, b0⟩
  · rw [hn] at HF
    go_enter Try.func30, Try.ntmps30
    go_wp2_with fail
    refine (specNameOk_any _ _ hkd).mono ?_
    rintro e w' ⟨rfl, rfl⟩
    go_wp2_with fail
    refine (l3Vals_any a cap L _ (hr.below b0) hs hm).mono ?_
    rintro e w1 ⟨rfl, hb⟩
    have hB : Below w.heap.size w w1 := b0.trans (hb.mono b0.size)
    generalize (L.all V3.ok && decide (L.length ≤ 5)) = r at HF ⊢
    go_wp2
    go_ret
    exact ⟨ret_bool (by rw [HF.out]; rfl), hB⟩

set_option maxHeartbeats 1600000 in
theorem isNoVal_any (K N : Int) (S : ByteArray) (w : World) (hs : S.size ≤ maxLen) :
    Calls Try.prog 67 #[.agg #[.int .i64 K, .int .i64 N, .string S]] w fun e w' => e = .returned (.bool (!valB K N S)) ∧ Below w.heap.size w w' := by
  go_enter Try.func67, Try.ntmps67
  go_wp2_with fail
  refine (implValOk_any K N S _ hs).mono ?_
  rintro e w1 ⟨rfl, hb⟩
  have hB : Below w.heap.size w w1 := (below_al w _).trans (hb.mono (by simp))
  go_wp2
  go_ret
  exact ⟨rfl, hB⟩

set_option maxHeartbeats 1600000 in
theorem indexNo_any (a : Option Addr) (cap : Nat) (L : List V3) (w : World) (hr : RdV w a L) (hs : ∀ v ∈ L, v.S.size ≤ maxLen) (hm : L.length ≤ 1048580) :
    Calls Try.prog 101 #[.slice a L.length cap, .func (.func 67) #[] #[]] w fun e w' =>
      (∃ r : Int, e = .returned (.int .i64 r) ∧ (r = -1 ∧ L.all V3.ok = true ∨ 0 ≤ r ∧ L.all V3.ok = false)) ∧ Below w.heap.size w w' := by
  obtain ⟨n, hN⟩ : ∃ n, n = L.length := ⟨_, rfl⟩
  rw [← hN] at hm ⊢
  have HN := hide hN
  have HS := hide hs
  clear hN hs
  go_enter Try.func101, Try.ntmps101
  go_wp2
  go_loopw [8] (fun i wr => ∃ (k : Nat), k ≤ n ∧ i = .int .i64 k ∧ (∀ j, j < k → valB (vAt L j).K (vAt L j).N (vAt L j).S = true) ∧ Below w.heap.size w wr) (fun i _ => n - (intOf i).toNat)
  case atStart => exact ⟨0, Nat.zero_le _, rfl, fun j hj => absurd hj (Nat.not_lt_zero _), Below.refl _ _⟩
  case round =>
    obtain ⟨k, hk, rfl, hall, hbel⟩ := hrel
    have HA := hide hall
    clear hall
    by_cases hlt : k < n
    · obtain ⟨b, off, hab, hbw, hc⟩ := hr.open (by rw [← HN.out]; omega)
      obtain ⟨c0, c1, c2⟩ := hc k (by rw [← HN.out]; exact hlt)
      clear hc
      subst hab
      rw [← hbel.cell (p := ⟨b, off + k * 3, none⟩) hbw] at c0
      rw [← hbel.cell (p := ⟨b, off + k * 3 + 1, none⟩) hbw] at c1
      rw [← hbel.cell (p := ⟨b, off + k * 3 + 2, none⟩) hbw] at c2
      have hS : (vAt L k).S.size ≤ maxLen := by rw [vAt_in (by rw [← HN.out]; exact hlt)]; exact HS.out _ (List.getElem_mem _)
      go_wp2_with fail
      refine (isNoVal_any _ _ _ _ hS).mono ?_
      rintro e w2 ⟨rfl, hb2⟩
      have hbel2 : Below w.heap.size w w2 := hbel.trans (hb2.mono hbel.size)
      clear hb2 hS c0 c1 c2 hbel
      cases hv : valB (vAt L k).K (vAt L k).N (vAt L k).S
      · have HV := hide (all_no (by rw [← HN.out]; exact hlt) hv)
        clear hv
        go_wp2
        go_ret
        exact ⟨⟨k, rfl, .inr ⟨by omega, HV.out⟩⟩, hbel2⟩
      · have HV := hide hv
        clear hv
        go_wp2
        go_roundw
        case rel => exact ⟨k + 1, by omega, by go_num, fun j hj => by
            by_cases hjk : j = k
            · rw [hjk]; exact HV.out
            · exact HA.out j (by omega), hbel2⟩
        case measure => simp [intOf]; omega
    · have HV : Hid (L.all V3.ok = true) := all_yes (fun j hj => HA.out j (by rw [← HN.out] at hj; omega))
      go_wp2
      go_ret
      exact ⟨⟨-1, rfl, .inl ⟨rfl, HV.out⟩⟩, hbel⟩

set_option maxHeartbeats 1600000 in
theorem containsNo_any (a : Option Addr) (cap : Nat) (L : List V3) (w : World) (hr : RdV w a L) (hs : ∀ v ∈ L, v.S.size ≤ maxLen) (hm : L.length ≤ 1048580) :
    Calls Try.prog 88 #[.slice a L.length cap, .func (.func 67) #[] #[]] w fun e w' =>
      e = .returned (.bool (!L.all V3.ok)) ∧ Below w.heap.size w w' := by
  go_enter Try.func88, Try.ntmps88
  go_wp2_with fail
  refine (indexNo_any a cap L _ hr hs hm).mono ?_
  rintro e w1 ⟨⟨r, rfl, hr1⟩, hb⟩
  rcases hr1 with ⟨rfl, h⟩ | ⟨h0, h⟩
  · have H := hide h
    clear h
    go_wp2
    go_ret
    exact ⟨ret_bool (by rw [H.out]; rfl), hb⟩
  · have H := hide h
    clear h
    go_wp2
    go_ret
    exact ⟨ret_bool (by rw [H.out]; rfl), hb⟩

set_option maxHeartbeats 1600000 in
theorem namedV_any (kd : ByteArray) (a : Option Addr) (cap : Nat) (L : List V3) (w : World) (hkd : kd.size ≤ maxLen) (hr : RdV w a L) (hs : ∀ v ∈ L, v.S.size ≤ maxLen) (hm : L.length ≤ 1048580) :
    Calls Try.prog 66 #[.string kd, .slice a L.length cap, .func (.func 67) #[] #[]] w fun e w' =>
      e = .returned (.bool (factB kd L)) ∧ Below w.heap.size w w' := by
  have HF : Hid (factB kd L = (nameB kd && decide (L.length ≤ 5) && L.all V3.ok)) := rfl
  cases hn : nameB kd
  · rw [hn] at HF
    go_enter Try.func66, Try.ntmps66
    go_wp2_with (go_at_call 87; refine (implNameOk_any _ _ hkd).mono ?_; rintro e w' ⟨rfl, rfl⟩)
    go_ret
    exact ⟨ret_bool HF.out.symm, Below.refl _ _⟩
  · rw [hn] at HF
    by_cases h5 : L.length ≤ 5
    · rw [decide_eq_true h5] at HF
      go_enter Try.func66, Try.ntmps66
      go_wp2_with fail
      refine (implNameOk_any _ _ hkd).mono ?_
      rintro e w' ⟨rfl, rfl⟩
      go_wp2_with fail
      refine (containsNo_any a cap L _ hr hs hm).mono ?_
      rintro e w1 ⟨rfl, hb⟩
      generalize L.all V3.ok = r at HF ⊢
      go_wp2
      go_ret
      exact ⟨ret_bool (by rw [HF.out]; cases r <;> rfl), hb⟩
    · rw [decide_eq_false h5] at HF
      go_enter Try.func66, Try.ntmps66
      go_wp2_with fail
      refine (implNameOk_any _ _ hkd).mono ?_
      rintro e w' ⟨rfl, rfl⟩
      go_wp2
      go_ret
      exact ⟨ret_bool HF.out.symm, Below.refl _ _⟩

set_option maxHeartbeats 1600000 in
theorem implFactOk_any (kd : ByteArray) (a : Option Addr) (cap : Nat) (L : List V3) (w : World) (hkd : kd.size ≤ maxLen) (hr : RdV w a L) (hs : ∀ v ∈ L, v.S.size ≤ maxLen) (hm : L.length ≤ 1048580) :
    Calls Try.prog 33 #[.agg #[.string kd, .slice a L.length cap]] w fun e w' =>
      e = .returned (.bool (factB kd L)) ∧ Below w.heap.size w w' := by
  have b0 := below_al w (.cells #[.string kd, .slice a L.length cap] 25)
  go_enter Try.func33, Try.ntmps33
  go_wp2_with fail
  refine (namedV_any kd a cap L _ hkd (hr.below b0) hs hm).mono ?_
  rintro e w1 ⟨rfl, hb⟩
  have hB : Below w.heap.size w w1 := b0.trans (hb.mono b0.size)
  go_wp2
  go_ret
  exact ⟨rfl, hB⟩
end Go.Proofs.Ytbellpalomiokab
/-
  Facts in bytes, plainly: what GetFact reads.
-/
namespace Go.Proofs.Ytbellpalomiokab
open Go.RowKit
set_option linter.unusedVariables false

/-- so many values, one behind the other -/
def valsR (bs : List UInt8) : Nat → Int → Option (List V3 × Int)
  | 0, x => some ([], x)
  | n + 1, x => if (valR bs x).2.2.2.2 then (valsR bs n (valR bs x).2.2.2.1).map fun r => (⟨(valR bs x).1, (valR bs x).2.1, (valR bs x).2.2.1⟩ :: r.1, r.2) else none
theorem valsR_yes {bs : List UInt8} {n : Nat} {x K N q : Int} {S : ByteArray} (h : valR bs x = (K, N, S, q, true)) : valsR bs (n + 1) x = (valsR bs n q).map fun r => (⟨K, N, S⟩ :: r.1, r.2) := by
  simp only [valsR, h, if_true]
theorem valsR_no {bs : List UInt8} {n : Nat} {x K N q : Int} {S : ByteArray} (h : valR bs x = (K, N, S, q, false)) : valsR bs (n + 1) x = none := by
  simp only [valsR, h, Bool.false_eq_true, if_false]
theorem valR_S (bs : List UInt8) (x : Int) : (valR bs x).2.2.1.size ≤ bs.length := by
  have h0 : (ByteArray.mk #[]).size = 0 := rfl
  unfold valR
  split
  · show (ByteArray.mk #[]).size ≤ _; omega
  · split
    · split
      · show (ByteArray.mk #[]).size ≤ _; omega
      · show (ByteArray.mk #[]).size ≤ _; omega
    · split
      · exact textR_size _ _
      · show (ByteArray.mk #[]).size ≤ _; omega
/-- a count of values, and these -/
def fieldsR (bs : List UInt8) (x : Int) : Option (List V3 × Int) :=
  if (numR bs x).2.2 && inB (numR bs x).1 0 5 then valsR bs (numR bs x).1.toNat (numR bs x).2.1 else none
theorem fieldsR_yes {bs : List UInt8} {x n p : Int} (h : numR bs x = (n, p, true)) (hn : inB n 0 5 = true) : fieldsR bs x = valsR bs n.toNat p := by
  unfold fieldsR; rw [h, hn]; rfl
theorem fieldsR_out {bs : List UInt8} {x n p : Int} (h : numR bs x = (n, p, true)) (hn : inB n 0 5 = false) : fieldsR bs x = none := by
  unfold fieldsR; rw [h, hn]; rfl
theorem fieldsR_no {bs : List UInt8} {x n p : Int} (h : numR bs x = (n, p, false)) : fieldsR bs x = none := by
  unfold fieldsR; rw [h]; rfl
/-- a kind, and values behind it, that are a fact -/
def factR (bs : List UInt8) (x : Int) : Option (ByteArray × List V3 × Int) :=
  if (textR bs x).2.2 then (match fieldsR bs (textR bs x).2.1 with
    | some (L, q) => if factB (textR bs x).1 L then some ((textR bs x).1, L, q) else none
    | none => none) else none
theorem factR_text {bs : List UInt8} {x p : Int} {kd : ByteArray} (h : textR bs x = (kd, p, false)) : factR bs x = none := by
  unfold factR; rw [h]; rfl
theorem factR_none {bs : List UInt8} {x p : Int} {kd : ByteArray} {b : Bool} (h : textR bs x = (kd, p, b)) (h2 : fieldsR bs p = none) : factR bs x = none := by
  unfold factR; rw [h]; simp [h2]
theorem factR_bad {bs : List UInt8} {x p q : Int} {kd : ByteArray} {b : Bool} {L : List V3} (h : textR bs x = (kd, p, b)) (h2 : fieldsR bs p = some (L, q)) (h3 : factB kd L = false) : factR bs x = none := by
  unfold factR; rw [h]; simp [h2, h3]
theorem factR_yes {bs : List UInt8} {x p q : Int} {kd : ByteArray} {L : List V3} (h : textR bs x = (kd, p, true)) (h2 : fieldsR bs p = some (L, q)) (h3 : factB kd L = true) : factR bs x = some (kd, L, q) := by
  unfold factR; rw [h]; simp [h2, h3]

/-- the values that a reader answers, and whether they are all that was to be read -/
def GetsV (bs : List UInt8) (x : Int) (base : Nat) (e : Ending) (w : World) : Prop := ∃ (v : Value) (q : Int) (b : Bool) (L : List V3),
  e = .returned (.tuple #[v, .int .i64 q, .bool b]) ∧ w.ownsRow base 45 3 v L.length (cells3 L) ∧ L.length ≤ 5 ∧ (∀ u ∈ L, u.S.size ≤ bs.length) ∧ fieldsR bs x = if b then some (L, q) else none
/-- reading goes on: k values are read, the rest is to come -/
def Going (bs : List UInt8) (n : Nat) (x0 : Int) (L : List V3) (x : Int) : Prop := valsR bs n x0 = (valsR bs (n - L.length) x).map fun r => (L ++ r.1, r.2)
theorem going_0 (bs : List UInt8) (n : Nat) (x0 : Int) : Going bs n x0 [] x0 := by
  unfold Going; simp
theorem going_step {bs : List UInt8} {n : Nat} {x0 x K N q : Int} {S : ByteArray} {L : List V3} (h : Going bs n x0 L x) (hl : L.length < n) (hv : valR bs x = (K, N, S, q, true)) : Going bs n x0 (L ++ [⟨K, N, S⟩]) q := by
  unfold Going at *
  obtain ⟨m, hm⟩ : ∃ m, n - L.length = m + 1 := ⟨n - L.length - 1, by omega⟩
  rw [h, hm, valsR_yes hv]
  have : n - (L ++ [(⟨K, N, S⟩ : V3)]).length = m := by simp; omega
  rw [this, Option.map_map]
  congr 1
  funext r
  simp
theorem going_no {bs : List UInt8} {n : Nat} {x0 x K N q : Int} {S : ByteArray} {L : List V3} (h : Going bs n x0 L x) (hl : L.length < n) (hv : valR bs x = (K, N, S, q, false)) : valsR bs n x0 = none := by
  unfold Going at h
  obtain ⟨m, hm⟩ : ∃ m, n - L.length = m + 1 := ⟨n - L.length - 1, by omega⟩
  rw [h, hm, valsR_no hv]; rfl
theorem going_end {bs : List UInt8} {n : Nat} {x0 x : Int} {L : List V3} (h : Going bs n x0 L x) (hl : L.length = n) : valsR bs n x0 = some (L, x) := by
  unfold Going at h
  rw [h, hl, Nat.sub_self]; simp [valsR]
end Go.Proofs.Ytbellpalomiokab
/-
  What the readers of numbers answer, the tested one and the model alike: numR, in the world as it was.
-/
namespace Go.Proofs.Ytbellpalomiokab
open Go.RowKit
set_option linter.unusedVariables false

set_option maxHeartbeats 1600000 in
theorem specGetNum_in (b off cap A n : Nat) (bs : List UInt8) (w : World) (hc : ∀ i, i < bs.length → w.cell? ⟨b, off + i, none⟩ = some (.int .u8 (byteAt bs i))) (hl : n = bs.length) (hn : n ≤ 1048580) (hA : A < n) :
    Calls Try.prog 59 #[.slice (some ⟨b, off, none⟩) n cap, .int .i64 (A : Int)] w fun e w' =>
      e = .returned (.tuple #[.int .i64 (numR bs A).1, .int .i64 (numR bs A).2.1, .bool (numR bs A).2.2]) ∧ w' = w := by
  have HN := hide hl
  have HC := hide hc
  clear hl hc
  go_enter Try.func59, Try.ntmps59
  go_wp2
  go_loop [7, 8] (fun m i => ∃ k : Nat, k ≤ 5 ∧ i = .int .i64 k ∧ m = .int .i64 (accN bs A k : Nat) ∧ scanN bs A 5 0 = scanN bs A (5 - k) k) (fun _ i => 5 - (intOf i).toNat)
  case atStart => exact ⟨0, Nat.zero_le _, rfl, rfl, rfl⟩
  case round =>
    obtain ⟨k, hk, rfl, rfl, hs⟩ := hrel
    have HS := hide hs
    clear hs
    have hm := accN_lt bs A k
    have hp := pow128_le hk
    have HM : Hid (accN bs A (k + 1) = accN bs A k + (byteAt bs (A + k)).toNat % 128 * 128 ^ k) := rfl
    by_cases h5 : k < 5
    · by_cases hlt : A + k < n
      · have h1 : w.cell? ⟨b, off + (A + k), none⟩ = some (.int .u8 (byteAt bs (A + k))) := HC.out _ (by rw [← HN.out]; exact hlt)
        have x1 := byteAt_lo bs (A + k)
        have x2 := byteAt_hi bs (A + k)
        have HX : Hid ((byteAt bs (A + k) < 128 → numR bs (A : Int) = if (k ≠ 0 ∧ byteAt bs (A + k) = 0) ∨ 2000000000 < accN bs A (k + 1) then (0, 0, false) else (unfN (accN bs A (k + 1)), (A : Int) + k + 1, true)) ∧
            (¬ byteAt bs (A + k) < 128 → scanN bs A (5 - k) k = scanN bs A (5 - (k + 1)) (k + 1))) :=
          ⟨fun h => numR_some (HS.out.trans (scanN_last h5 (by rw [← HN.out]; exact hlt) h)), fun h => scanN_more h5 (by rw [← HN.out]; exact hlt) h⟩
        generalize byteAt bs (A + k) = c at h1 x1 x2 HM HX ⊢
        generalize accN bs A k = m at hm HM ⊢
        have hor := or_step hm h5 x1 x2
        rw [← HM.out] at hor
        have hM := accN_lt bs A (k + 1)
        have hP := pow128_le (k := k + 1) (by omega)
        obtain ⟨M, HE⟩ : ∃ M, Hid (accN bs A (k + 1) = M) := ⟨_, rfl⟩
        rw [HE.out] at hor hM HX
        clear HM
        have h127 := i64_and127 c
        by_cases hbig : 127 < c
        · go_wp2
          go_round
          case rel => exact ⟨k + 1, by omega, by go_num, by rw [HE.out], HS.out.trans (HX.out.2 (by omega))⟩
          case measure => simp [intOf]; omega
        · have HF := hide (HX.out.1 (by omega))
          clear HX
          have hA0 := i64_and_nat M 1 (by omega) (by omega)
          rw [Nat.and_one_is_mod] at hA0
          have hUI := unfN_in M
          by_cases hodd : M % 2 = 1
          · have hA : bits .and .i64 (M : Int) 1 = 1 := by rw [hodd] at hA0; exact hA0
            have HU := hide (unfN_odd hodd)
            rw [HU.out] at hUI HF
            clear hA0 hodd
            by_cases hz : 0 < k ∧ c ≤ 0
            · obtain ⟨hz1, hz2⟩ := hz
              have HG := hide (HF.out.trans (if_pos (Or.inl ⟨by omega, by omega⟩)))
              clear hUI
              go_wp2
              go_ret3
              exact ⟨ret_num HG.out, rfl⟩
            · by_cases hbg : 2000000000 < M
              · have hI : inB (-((M : Int) / 2) - 1) (-1000000000) 1000000000 = false := by rw [hUI]; simp [hbg]
                have HG := hide (HF.out.trans (if_pos (Or.inr hbg)))
                clear hUI
                by_cases hk0 : 0 < k
                all_goals
                  go_wp2_with (first | (go_at_call 60; refine (l1In_any _ _ _ _).mono ?_; rintro e w' ⟨rfl, rfl⟩))
                  go_ret3
                  exact ⟨ret_num HG.out, rfl⟩
              · have hI : inB (-((M : Int) / 2) - 1) (-1000000000) 1000000000 = true := by rw [hUI]; simp [hbg]
                have HG := hide (HF.out.trans (if_neg (fun h => by rcases h with ⟨h, h'⟩ | h <;> omega)))
                clear hUI
                by_cases hk0 : 0 < k
                all_goals
                  go_wp2_with (first | (go_at_call 60; refine (l1In_any _ _ _ _).mono ?_; rintro e w' ⟨rfl, rfl⟩))
                  go_ret3
                  exact ⟨ret_num HG.out, rfl⟩
          · have hA : bits .and .i64 (M : Int) 1 = 0 := by rw [show M % 2 = 0 by omega] at hA0; exact hA0
            have HU := hide (unfN_even hodd)
            rw [HU.out] at hUI HF
            clear hA0 hodd
            by_cases hz : 0 < k ∧ c ≤ 0
            · obtain ⟨hz1, hz2⟩ := hz
              have HG := hide (HF.out.trans (if_pos (Or.inl ⟨by omega, by omega⟩)))
              clear hUI
              go_wp2
              go_ret3
              exact ⟨ret_num HG.out, rfl⟩
            · by_cases hbg : 2000000000 < M
              · have hI : inB ((M : Int) / 2) (-1000000000) 1000000000 = false := by rw [hUI]; simp [hbg]
                have HG := hide (HF.out.trans (if_pos (Or.inr hbg)))
                clear hUI
                by_cases hk0 : 0 < k
                all_goals
                  go_wp2_with (first | (go_at_call 60; refine (l1In_any _ _ _ _).mono ?_; rintro e w' ⟨rfl, rfl⟩))
                  go_ret3
                  exact ⟨ret_num HG.out, rfl⟩
              · have hI : inB ((M : Int) / 2) (-1000000000) 1000000000 = true := by rw [hUI]; simp [hbg]
                have HG := hide (HF.out.trans (if_neg (fun h => by rcases h with ⟨h, h'⟩ | h <;> omega)))
                clear hUI
                by_cases hk0 : 0 < k
                all_goals
                  go_wp2_with (first | (go_at_call 60; refine (l1In_any _ _ _ _).mono ?_; rintro e w' ⟨rfl, rfl⟩))
                  go_ret3
                  exact ⟨ret_num HG.out, rfl⟩
      · have HR := hide (numR_none (HS.out.trans (scanN_end h5 (by rw [← HN.out]; exact hlt))))
        go_wp2
        go_ret3
        exact ⟨ret_num HR.out, rfl⟩
    · obtain rfl : k = 5 := by omega
      have HR := hide (numR_none (HS.out))
      go_wp2
      go_ret3
      exact ⟨ret_num HR.out, rfl⟩

set_option maxHeartbeats 1600000 in
theorem specGetNum_out (a : Option Addr) (cap n : Nat) (x : Int) (bs : List UInt8) (w : World) (hl : n = bs.length) (hn : n ≤ 1048580) (hx : x < 0 ∨ (n : Int) ≤ x) :
    Calls Try.prog 59 #[.slice a n cap, .int .i64 x] w fun e w' => e = .returned (.tuple #[.int .i64 0, .int .i64 0, .bool false]) ∧ w' = w := by
  clear hl
  by_cases h0 : 0 ≤ x
  all_goals
    go_enter Try.func59, Try.ntmps59
    go_wp2
    refine wp_loop_rounds 1 ?_
    rw [rounds_succ]
    go_wp2
    go_ret3
    exact ⟨rfl, rfl⟩

theorem specGetNum_any (a : Option Addr) (cap : Nat) (x : Int) (bs : List UInt8) (w : World) (hr : Rd w a bs) (hn : bs.length ≤ 1048580) :
    Calls Try.prog 59 #[.slice a bs.length cap, .int .i64 x] w fun e w' =>
      e = .returned (.tuple #[.int .i64 (numR bs x).1, .int .i64 (numR bs x).2.1, .bool (numR bs x).2.2]) ∧ w' = w := by
  by_cases h0 : 0 ≤ x
  · by_cases h1 : x < bs.length
    · obtain ⟨A, rfl⟩ := Int.eq_ofNat_of_zero_le h0
      obtain ⟨b, off, rfl, _, hc⟩ := hr.open (by omega)
      exact specGetNum_in b off cap A bs.length bs w hc rfl hn (by omega)
    · rw [numR_past (by omega)]
      exact specGetNum_out a cap bs.length x bs w rfl hn (by omega)
  · rw [numR_neg (by omega)]
    exact specGetNum_out a cap bs.length x bs w rfl hn (by omega)
end Go.Proofs.Ytbellpalomiokab
/-
  What the model's reader of texts answers: textR, in the world as it was.
-/
namespace Go.Proofs.Ytbellpalomiokab
open Go.RowKit
set_option linter.unusedVariables false

set_option maxHeartbeats 1600000 in
theorem specGetText_any (a : Option Addr) (cap : Nat) (x : Int) (bs : List UInt8) (w : World) (hr : Rd w a bs) (hn : bs.length ≤ 1048580) (hcap : bs.length ≤ cap) :
    Calls Try.prog 28 #[.slice a bs.length cap, .int .i64 x] w fun e w' =>
      e = .returned (.tuple #[.string (textR bs x).1, .int .i64 (textR bs x).2.1, .bool (textR bs x).2.2]) ∧ w' = w := by
  have HC := specGetNum_any a cap x bs w hr hn
  have HT := hide (@numR_true bs x)
  have HNo := hide (@textR_no bs x)
  have HYes := hide (textR_yes bs x)
  generalize (numR bs x).1 = r1 at HC HT HNo HYes
  generalize (numR bs x).2.1 = r2 at HC HT HNo HYes
  generalize (numR bs x).2.2 = r3 at HC HT HNo HYes
  cases r3 with
  | false =>
    have HR := hide (HNo.out (Or.inl rfl))
    go_enter Try.func28, Try.ntmps28
    go_wp2_with fail
    refine HC.mono ?_
    rintro e w' ⟨rfl, rfl⟩
    go_wp2
    go_ret3
    exact ⟨ret_text HR.out, rfl⟩
  | true =>
    obtain ⟨hx0, hx1, hx2⟩ := HT.out rfl
    by_cases hneg : r1 < 0
    · have HR := hide (HNo.out (Or.inr (Or.inl hneg)))
      go_enter Try.func28, Try.ntmps28
      go_wp2_with fail
      refine HC.mono ?_
      rintro e w' ⟨rfl, rfl⟩
      go_wp2
      go_ret3
      exact ⟨ret_text HR.out, rfl⟩
    · by_cases hbig : (bs.length : Int) - r2 < r1
      · have HR := hide (HNo.out (Or.inr (Or.inr hbig)))
        go_enter Try.func28, Try.ntmps28
        go_wp2_with fail
        refine HC.mono ?_
        rintro e w' ⟨rfl, rfl⟩
        go_wp2
        go_ret3
        exact ⟨ret_text HR.out, rfl⟩
      · obtain ⟨P, rfl⟩ := Int.eq_ofNat_of_zero_le (show 0 ≤ r2 by omega)
        obtain ⟨N, rfl⟩ := Int.eq_ofNat_of_zero_le (show 0 ≤ r1 by omega)
        have HR := hide (HYes.out P N (fun h => by rcases h with h | h | h; exact Bool.noConfusion h; exact hneg h; exact hbig h) rfl rfl)
        have hPN : P + N ≤ bs.length := by omega
        obtain ⟨b, off, rfl, _, hc⟩ := hr.open (by omega)
        have HCL := hide hc
        clear hc HNo HYes HT
        by_cases hend : P < cap
        · have hcv : ∀ c', (convert 22 9 (.slice (some ⟨b, off + P, none⟩) N c')).run Try.prog w = .ok (.string ⟨((bs.drop P).take N).toArray⟩) w := by
            intro c'
            exact conv_part (by omega) HCL.out c'
          generalize ((bs.drop P).take N).toArray = S at hcv HR
          go_enter Try.func28, Try.ntmps28
          go_wp2_with fail
          refine HC.mono ?_
          rintro e w' ⟨rfl, rfl⟩
          go_wp2
          go_ret3
          exact ⟨ret_text HR.out, rfl⟩
        · obtain rfl : N = 0 := by omega
          have hcv : ∀ c', (convert 22 9 (.slice (some ⟨b, off, none⟩) 0 c')).run Try.prog w = .ok (.string ⟨#[]⟩) w := by
            intro c'
            exact conv_part (bs := bs) (P := 0) (N := 0) (by omega) HCL.out c'
          go_enter Try.func28, Try.ntmps28
          go_wp2_with fail
          refine HC.mono ?_
          rintro e w' ⟨rfl, rfl⟩
          go_wp2
          go_ret3
          exact ⟨ret_text (by rw [HR.out]; simp), rfl⟩

end Go.Proofs.Ytbellpalomiokab
/-
  What the model's reader of values answers: valR; nothing that was there has turned.
-/
namespace Go.Proofs.Ytbellpalomiokab
open Go.RowKit
set_option linter.unusedVariables false

theorem grown_below' {w w' : World} (h : w.grownBy w' none) : Below w.heap.size w w' := (Below.refl _ _).grown h (Nat.le_refl _) (fun k hk => by cases hk)

set_option maxHeartbeats 1600000 in
theorem specGetVal_any (a : Option Addr) (cap : Nat) (x : Int) (bs : List UInt8) (w : World) (hr : Rd w a bs) (hn : bs.length ≤ 1048580) (hcap : bs.length ≤ cap) :
    Calls Try.prog 61 #[.slice a bs.length cap, .int .i64 x] w fun e w' =>
      e = .returned (valT (valR bs x)) ∧ Below w.heap.size w w' := by
  have hr1 : ∀ o, Rd (w.alloc o) a bs := fun o => hr.below ((Below.refl _ _).alloc (Nat.le_refl _) _)
  have hr2 : ∀ o o', Rd ((w.alloc o).alloc o') a bs := fun o o' => (hr1 o).below ((Below.refl _ _).alloc (Nat.le_refl _) _)
  have HR1 := hide hr1
  have HR2 := hide hr2
  clear hr1 hr2 hr
  cases hok : (numR bs x).2.2
  · have HV := hide (valR_no hok)
    have HN := hide (numR_false hok)
    clear hok
    go_enter Try.func61, Try.ntmps61
    go_wp2_with fail
    refine (specGetNum_any a cap x bs _ (HR1.out _) hn).mono ?_
    rw [HN.out]
    rintro e w1 ⟨rfl, rfl⟩
    go_wp2_with fail
    refine (specGetText_any a cap 0 bs _ (HR2.out _ _) hn hcap).mono ?_
    generalize (textR bs 0).1 = s
    generalize (textR bs 0).2.1 = q
    generalize (textR bs 0).2.2 = b
    rintro e w1 ⟨rfl, rfl⟩
    go_wp2
    go_returns
    exact ⟨ret_val HV.out, by go_grown⟩
  · obtain ⟨k, p, hkp⟩ : ∃ k p, numR bs x = (k, p, true) := ⟨(numR bs x).1, (numR bs x).2.1, Prod.ext rfl (Prod.ext rfl hok)⟩
    clear hok
    by_cases hk : k = 1
    · subst hk
      obtain ⟨n, q, b, h2⟩ : ∃ n q b, numR bs p = (n, q, b) := ⟨_, _, _, rfl⟩
      have HV := hide (valR_num hkp h2)
      have HN := hide hkp
      have HN2 := hide h2
      clear hkp h2
      go_enter Try.func61, Try.ntmps61
      go_wp2_with fail
      refine (specGetNum_any a cap x bs _ (HR1.out _) hn).mono ?_
      rw [HN.out]
      rintro e w1 ⟨rfl, rfl⟩
      go_wp2_with fail
      refine (specGetNum_any a cap p bs _ (HR2.out _ _) hn).mono ?_
      rw [HN2.out]
      rintro e w1 ⟨rfl, rfl⟩
      have hs0 : (ByteArray.mk #[]).size = 0 := rfl
      cases b
      · have HV2 : Hid (valR bs x = (0, 0, ⟨#[]⟩, 0, false)) := by unfold Hid; rw [HV.out]; rfl
        clear HV
        go_wp2
        go_returns
        exact ⟨ret_val HV2.out, by go_grown⟩
      · skip
        go_wp2_with fail
        refine (specValOk_any 1 n ⟨#[]⟩ _ (by decide)).mono ?_
        rintro e w1 ⟨rfl, g1⟩
        have hb := grown_below' g1
        clear g1
        have HR := hide (box_below (box_old (box_new w (.int .i64 0) (.int .i64 0) (.string ⟨#[]⟩) 45) (by simp) (.cells #[.int .i64 1, .int .i64 n, .string ⟨#[]⟩] 45)) hb (by simp; omega))
        have HB := hide (box_below (box_new (w.alloc (.cells #[.int .i64 0, .int .i64 0, .string ⟨#[]⟩] 45)) (.int .i64 1) (.int .i64 n) (.string ⟨#[]⟩) 45) hb (by simp))
        have hB1 : Below w.heap.size w w1 := (((Below.refl w.heap.size w).alloc (Nat.le_refl _) _).alloc (by simp) _).trans (hb.mono (by simp; omega))
        simp only [World.size_alloc] at HR HB
        clear hb
        cases hv : valB 1 n ⟨#[]⟩
        · have HV2 : Hid (valR bs x = (0, 0, ⟨#[]⟩, 0, false)) := by unfold Hid; rw [HV.out, hv]; rfl
          clear HV hv
          obtain ⟨c0, c1, c2, f0, f1, f2⟩ := box_cell HR.out
          go_wp2
          refine box_post HR.out (fun w4 h4 gr => ?_)
          clear c0 c1 c2 f0 f1 f2
          obtain ⟨c0, c1, c2, -, -, -⟩ := box_cell h4
          refine bodyPost_ret (v := valT (0, 0, ⟨#[]⟩, 0, false)) (by simp [results, Try.results61, go_sem, c0, c1, c2, valT]) rfl ⟨ret_val HV2.out, below_set hB1 gr (by omega)⟩
        · have HV2 : Hid (valR bs x = (1, n, ⟨#[]⟩, q, true)) := by unfold Hid; rw [HV.out, hv]; rfl
          clear HV hv
          obtain ⟨c0, c1, c2, f0, f1, f2⟩ := box_cell HR.out
          obtain ⟨d0, d1, d2, -, -, -⟩ := box_cell HB.out
          go_wp2
          refine box_post HR.out (fun w4 h4 gr => ?_)
          clear c0 c1 c2 f0 f1 f2
          obtain ⟨c0, c1, c2, -, -, -⟩ := box_cell h4
          refine bodyPost_ret (v := valT (1, n, ⟨#[]⟩, q, true)) (by simp [results, Try.results61, go_sem, c0, c1, c2, valT]) rfl ⟨ret_val HV2.out, below_set hB1 gr (by omega)⟩
    · obtain ⟨s, q, b, h2⟩ : ∃ s q b, textR bs p = (s, q, b) := ⟨_, _, _, rfl⟩
      have hs : s.size ≤ bs.length := by have := textR_size bs p; rw [h2] at this; exact this
      have HV := hide (valR_text hkp hk h2)
      have HN := hide hkp
      have HN2 := hide h2
      have hk1 : (k == 1) = false := by simpa using hk
      clear hkp h2 hk
      go_enter Try.func61, Try.ntmps61
      go_wp2_with fail
      refine (specGetNum_any a cap x bs _ (HR1.out _) hn).mono ?_
      rw [HN.out]
      rintro e w1 ⟨rfl, rfl⟩
      go_wp2_with fail
      refine (specGetText_any a cap p bs _ (HR2.out _ _) hn hcap).mono ?_
      rw [HN2.out]
      rintro e w1 ⟨rfl, rfl⟩
      cases b
      · have HV2 : Hid (valR bs x = (0, 0, ⟨#[]⟩, 0, false)) := by unfold Hid; rw [HV.out]; rfl
        clear HV
        go_wp2
        go_returns
        exact ⟨ret_val HV2.out, by go_grown⟩
      · skip
        go_wp2_with fail
        refine (specValOk_any k 0 s _ (by unfold maxLen; omega)).mono ?_
        rintro e w1 ⟨rfl, g1⟩
        have hb := grown_below' g1
        clear g1
        have HR := hide (box_below (box_old (box_new w (.int .i64 0) (.int .i64 0) (.string ⟨#[]⟩) 45) (by simp) (.cells #[.int .i64 k, .int .i64 0, .string s] 45)) hb (by simp; omega))
        have HB := hide (box_below (box_new (w.alloc (.cells #[.int .i64 0, .int .i64 0, .string ⟨#[]⟩] 45)) (.int .i64 k) (.int .i64 0) (.string s) 45) hb (by simp))
        have hB1 : Below w.heap.size w w1 := (((Below.refl w.heap.size w).alloc (Nat.le_refl _) _).alloc (by simp) _).trans (hb.mono (by simp; omega))
        simp only [World.size_alloc] at HR HB
        clear hb
        cases hv : valB k 0 s
        · have HV2 : Hid (valR bs x = (0, 0, ⟨#[]⟩, 0, false)) := by unfold Hid; rw [HV.out, hv]; rfl
          clear HV hv
          obtain ⟨c0, c1, c2, f0, f1, f2⟩ := box_cell HR.out
          go_wp2
          refine box_post HR.out (fun w4 h4 gr => ?_)
          clear c0 c1 c2 f0 f1 f2
          obtain ⟨c0, c1, c2, -, -, -⟩ := box_cell h4
          refine bodyPost_ret (v := valT (0, 0, ⟨#[]⟩, 0, false)) (by simp [results, Try.results61, go_sem, c0, c1, c2, valT]) rfl ⟨ret_val HV2.out, below_set hB1 gr (by omega)⟩
        · have HV2 : Hid (valR bs x = (k, 0, s, q, true)) := by unfold Hid; rw [HV.out, hv]; rfl
          clear HV hv
          obtain ⟨c0, c1, c2, f0, f1, f2⟩ := box_cell HR.out
          obtain ⟨d0, d1, d2, -, -, -⟩ := box_cell HB.out
          go_wp2
          refine box_post HR.out (fun w4 h4 gr => ?_)
          clear c0 c1 c2 f0 f1 f2
          obtain ⟨c0, c1, c2, -, -, -⟩ := box_cell h4
          refine bodyPost_ret (v := valT (k, 0, s, q, true)) (by simp [results, Try.results61, go_sem, c0, c1, c2, valT]) rfl ⟨ret_val HV2.out, below_set hB1 gr (by omega)⟩
end Go.Proofs.Ytbellpalomiokab
/-
  What the tested reader of numbers answers: numR, in the world as it was.
-/
namespace Go.Proofs.Ytbellpalomiokab
open Go.RowKit
set_option linter.unusedVariables false

set_option maxHeartbeats 400000 in
theorem unfoldSign_any (M : Nat) (w : World) (h : M ≤ 2000000000) :
    Calls Try.prog 86 #[.int .i64 (M : Int)] w fun e w' => e = .returned (.int .i64 (unfN M)) ∧ w' = w := by
  by_cases hodd : M % 2 = 1
  · have h1 : (((M : Int) % 2) == 1) = true := by simp; omega
    have HU := hide (unfN_odd hodd)
    clear hodd
    go_enter Try.func86, Try.ntmps86
    go_wp2
    go_ret
    exact ⟨ret_int (by
      have HO : (M : Int) % 2 = 1 := by simpa using h1
      rw [HU.out, Int.tdiv_eq_ediv_of_nonneg (by omega), IntWalk.wrap64_in _ (by omega)]
      omega), rfl⟩
  · have h1 : (((M : Int) % 2) == 1) = false := by simp; omega
    have HU := hide (unfN_even hodd)
    clear hodd
    go_enter Try.func86, Try.ntmps86
    go_wp2
    go_ret
    exact ⟨ret_int (by rw [HU.out]), rfl⟩

set_option maxHeartbeats 1600000 in
theorem getGroups_in (b off cap A n : Nat) (bs : List UInt8) (w : World) (hc : ∀ i, i < bs.length → w.cell? ⟨b, off + i, none⟩ = some (.int .u8 (byteAt bs i))) (hl : n = bs.length) (hn : n ≤ 1048580) (hcap : n ≤ cap) (hA : A < n) :
    Calls Try.prog 85 #[.slice (some ⟨b, off, none⟩) n cap, .int .i64 (A : Int)] w fun e w' =>
      e = .returned (.tuple #[.int .i64 (grpR bs A).1, .int .i64 (grpR bs A).2.1, .bool (grpR bs A).2.2]) ∧ w' = w := by
  have HN := hide hl
  have HC := hide hc
  clear hl hc
  by_cases h5 : A + 5 < n
  all_goals
    go_enter Try.func85, Try.ntmps85
    go_wp2
    go_loop [7, 27] (fun m i => ∃ k : Nat, k ≤ 5 ∧ A + k ≤ n ∧ i = .int .i64 k ∧ m = .int .i64 (accN bs A k : Nat) ∧ scanN bs A 5 0 = scanN bs A (5 - k) k) (fun _ i => 5 - (intOf i).toNat)
    case atStart => exact ⟨0, Nat.zero_le _, by omega, rfl, rfl, rfl⟩
    case round =>
      obtain ⟨k, hk, hkn, rfl, rfl, hs⟩ := hrel
      have HS := hide hs
      clear hs
      have hm := accN_lt bs A k
      have hp := pow128_le hk
      have HM : Hid (accN bs A (k + 1) = accN bs A k + (byteAt bs (A + k)).toNat % 128 * 128 ^ k) := rfl
      by_cases hin : k < 5 ∧ A + k < n
      · obtain ⟨hk5, hlt⟩ := hin
        have h1 : w.cell? ⟨b, off + A + k, none⟩ = some (.int .u8 (byteAt bs (A + k))) := by rw [Nat.add_assoc]; exact HC.out _ (by rw [← HN.out]; exact hlt)
        have x1 := byteAt_lo bs (A + k)
        have x2 := byteAt_hi bs (A + k)
        have HX : Hid ((byteAt bs (A + k) < 128 → grpR bs A = (((accN bs A (k + 1) : Nat) : Int), (A : Int) + k + 1, k == 0 || byteAt bs (A + k) != 0)) ∧
            (¬ byteAt bs (A + k) < 128 → scanN bs A (5 - k) k = scanN bs A (5 - (k + 1)) (k + 1))) :=
          ⟨fun h => grpR_some (HS.out.trans (scanN_last hk5 (by rw [← HN.out]; exact hlt) h)), fun h => scanN_more hk5 (by rw [← HN.out]; exact hlt) h⟩
        generalize byteAt bs (A + k) = c at h1 x1 x2 HM HX ⊢
        generalize accN bs A k = m at hm HM ⊢
        have hor := or_step hm hk5 x1 x2
        rw [← HM.out] at hor
        have hM := accN_lt bs A (k + 1)
        have hP := pow128_le (k := k + 1) (by omega)
        obtain ⟨M, HE⟩ : ∃ M, Hid (accN bs A (k + 1) = M) := ⟨_, rfl⟩
        rw [HE.out] at hor hM HX
        clear HM
        have h127 := u8_and127 c x1 x2
        by_cases hbig : c < 128
        · have HF := hide (HX.out.1 hbig)
          clear HX
          by_cases hk0 : 0 < k
          · have hk1 : ((k : Int) == 0) = false := by simp; omega
            have hk2 : (k == 0) = false := by simp; omega
            cases hq : (c != 0)
            · have HG : Hid (grpR bs A = ((M : Int), (A : Int) + k + 1, false)) := by
                unfold Hid; rw [HF.out, hq, hk2]; rfl
              clear HF hk2
              go_wp2
              go_ret3
              exact ⟨ret_grp HG.out, rfl⟩
            · have HG : Hid (grpR bs A = ((M : Int), (A : Int) + k + 1, true)) := by
                unfold Hid; rw [HF.out, hq, hk2]; rfl
              clear HF hk2
              go_wp2
              go_ret3
              exact ⟨ret_grp HG.out, rfl⟩
          · have HG : Hid (grpR bs A = ((M : Int), (A : Int) + 1, true)) := by
              unfold Hid
              obtain rfl : k = 0 := by omega
              rw [HF.out]; simp
            clear HF
            go_wp2
            go_ret3
            exact ⟨ret_grp HG.out, rfl⟩
        · go_wp2
          go_round
          case rel => exact ⟨k + 1, by omega, by omega, by go_num, by rw [HE.out], HS.out.trans (HX.out.2 (by omega))⟩
          case measure => simp [intOf]; omega
      · have HR := hide (grpR_none (HS.out.trans (by
          by_cases hk5 : k < 5
          · exact scanN_end hk5 (by rw [← HN.out]; omega)
          · rw [show k = 5 by omega]; rfl)))
        go_wp2
        go_ret3
        exact ⟨ret_grp HR.out, rfl⟩

set_option maxHeartbeats 1600000 in
theorem getGroups_out (a : Option Addr) (cap n : Nat) (x : Int) (w : World) (hn : n ≤ 1048580) (hx : x < 0 ∨ (n : Int) < x) :
    Calls Try.prog 85 #[.slice a n cap, .int .i64 x] w fun e w' => e = .returned (.tuple #[.int .i64 0, .int .i64 0, .bool false]) ∧ w' = w := by
  by_cases h0 : 0 ≤ x
  all_goals
    go_enter Try.func85, Try.ntmps85
    go_wp2
    go_ret3
    exact ⟨rfl, rfl⟩

set_option maxHeartbeats 1600000 in
theorem getGroups_end (a : Option Addr) (cap n : Nat) (w : World) (hn : n ≤ 1048580) (hcap : n ≤ cap) (ha : a = none → n = 0 ∧ cap = 0) :
    Calls Try.prog 85 #[.slice a n cap, .int .i64 (n : Int)] w fun e w' => e = .returned (.tuple #[.int .i64 0, .int .i64 0, .bool false]) ∧ w' = w := by
  cases a with
  | none =>
    obtain ⟨rfl, rfl⟩ := ha rfl
    go_enter Try.func85, Try.ntmps85
    go_wp2
    refine wp_loop_rounds 1 ?_
    rw [rounds_succ]
    go_wp2
    go_ret3
    exact ⟨rfl, rfl⟩
  | some p =>
    go_enter Try.func85, Try.ntmps85
    go_wp2
    all_goals
      refine wp_loop_rounds 1 ?_
      rw [rounds_succ]
      go_wp2
      go_ret3
      exact ⟨rfl, rfl⟩

theorem ret_none {bs : List UInt8} {x : Int} (h : numR bs x = (0, 0, false)) :
    Ending.returned (.tuple #[.int .i64 0, .int .i64 0, .bool false]) = .returned (.tuple #[.int .i64 (numR bs x).1, .int .i64 (numR bs x).2.1, .bool (numR bs x).2.2]) := by rw [h]

set_option maxHeartbeats 1600000 in
theorem implGetNum_any (a : Option Addr) (cap : Nat) (x : Int) (bs : List UInt8) (w : World) (hr : Rd w a bs) (hn : bs.length ≤ 1048580) (hcap : bs.length ≤ cap) (ha : a = none → bs.length = 0 ∧ cap = 0) :
    Calls Try.prog 64 #[.slice a bs.length cap, .int .i64 x] w fun e w' =>
      e = .returned (.tuple #[.int .i64 (numR bs x).1, .int .i64 (numR bs x).2.1, .bool (numR bs x).2.2]) ∧ w' = w := by
  by_cases h0 : x < 0 ∨ (bs.length : Int) < x
  · have HR : Hid (numR bs x = (0, 0, false)) := by
      rcases h0 with h | h
      · exact numR_neg h
      · exact numR_past (by omega)
    go_enter Try.func64, Try.ntmps64
    go_wp2_with fail
    refine (getGroups_out a cap bs.length x w hn h0).mono ?_
    rintro e w' ⟨rfl, rfl⟩
    go_wp2
    go_ret3
    exact ⟨ret_none HR.out, rfl⟩
  · by_cases h1 : x = bs.length
    · have HR : Hid (numR bs x = (0, 0, false)) := numR_past (by omega)
      subst h1
      go_enter Try.func64, Try.ntmps64
      go_wp2_with fail
      refine (getGroups_end a cap bs.length w hn hcap ha).mono ?_
      rintro e w' ⟨rfl, rfl⟩
      go_wp2
      go_ret3
      exact ⟨ret_none HR.out, rfl⟩
    · obtain ⟨A, rfl⟩ := Int.eq_ofNat_of_zero_le (show 0 ≤ x by omega)
      obtain ⟨b, off, rfl, _, hc⟩ := hr.open (by omega)
      obtain ⟨M, hM, hg, hnr⟩ := numR_grp bs A
      have HC := getGroups_in b off cap A bs.length bs w hc rfl hn hcap (by omega)
      have HN := hide hnr
      clear hnr hc
      rw [hg] at HC
      generalize (grpR bs A).2.1 = y at HC HN
      generalize (grpR bs A).2.2 = z at HC HN
      clear hg
      cases z with
      | false =>
        have HR := hide (HN.out.trans (if_pos (Or.inl rfl)))
        go_enter Try.func64, Try.ntmps64
        go_wp2_with fail
        refine HC.mono ?_
        rintro e w' ⟨rfl, rfl⟩
        go_wp2
        go_ret3
        exact ⟨ret_none HR.out, rfl⟩
      | true =>
        by_cases hbg : 2000000000 < M
        · have HR := hide (HN.out.trans (if_pos (Or.inr hbg)))
          go_enter Try.func64, Try.ntmps64
          go_wp2_with fail
          refine HC.mono ?_
          rintro e w' ⟨rfl, rfl⟩
          go_wp2
          go_ret3
          exact ⟨ret_none HR.out, rfl⟩
        · have HR := hide (HN.out.trans (if_neg (fun h => by rcases h with h | h; exact Bool.noConfusion h; omega)))
          go_enter Try.func64, Try.ntmps64
          go_wp2_with fail
          refine HC.mono ?_
          rintro e w' ⟨rfl, rfl⟩
          go_wp2_with (go_at_call 86; refine (unfoldSign_any _ _ (by omega)).mono ?_; rintro e w' ⟨rfl, rfl⟩)
          go_ret3
          exact ⟨ret_num HR.out, rfl⟩
end Go.Proofs.Ytbellpalomiokab
/-
  What the tested reader of texts answers: textR, in the world as it was.
-/
namespace Go.Proofs.Ytbellpalomiokab
open Go.RowKit
set_option linter.unusedVariables false

set_option maxHeartbeats 1600000 in
theorem implGetText_any (a : Option Addr) (cap : Nat) (x : Int) (bs : List UInt8) (w : World) (hr : Rd w a bs) (hn : bs.length ≤ 1048580) (hcap : bs.length ≤ cap) (ha : a = none → bs.length = 0 ∧ cap = 0) :
    Calls Try.prog 31 #[.slice a bs.length cap, .int .i64 x] w fun e w' =>
      e = .returned (.tuple #[.string (textR bs x).1, .int .i64 (textR bs x).2.1, .bool (textR bs x).2.2]) ∧ w' = w := by
  have HC := implGetNum_any a cap x bs w hr hn hcap ha
  have HT := hide (@numR_true bs x)
  have HNo := hide (@textR_no bs x)
  have HYes := hide (textR_yes bs x)
  generalize (numR bs x).1 = r1 at HC HT HNo HYes
  generalize (numR bs x).2.1 = r2 at HC HT HNo HYes
  generalize (numR bs x).2.2 = r3 at HC HT HNo HYes
  cases r3 with
  | false =>
    have HR := hide (HNo.out (Or.inl rfl))
    go_enter Try.func31, Try.ntmps31
    go_wp2_with fail
    refine HC.mono ?_
    rintro e w' ⟨rfl, rfl⟩
    go_wp2
    go_ret3
    exact ⟨ret_text HR.out, rfl⟩
  | true =>
    obtain ⟨hx0, hx1, hx2⟩ := HT.out rfl
    by_cases hneg : r1 < 0
    · have HR := hide (HNo.out (Or.inr (Or.inl hneg)))
      go_enter Try.func31, Try.ntmps31
      go_wp2_with fail
      refine HC.mono ?_
      rintro e w' ⟨rfl, rfl⟩
      go_wp2
      go_ret3
      exact ⟨ret_text HR.out, rfl⟩
    · by_cases hbig : (bs.length : Int) - r2 < r1
      · have HR := hide (HNo.out (Or.inr (Or.inr hbig)))
        go_enter Try.func31, Try.ntmps31
        go_wp2_with fail
        refine HC.mono ?_
        rintro e w' ⟨rfl, rfl⟩
        go_wp2
        go_ret3
        exact ⟨ret_text HR.out, rfl⟩
      · obtain ⟨P, rfl⟩ := Int.eq_ofNat_of_zero_le (show 0 ≤ r2 by omega)
        obtain ⟨N, rfl⟩ := Int.eq_ofNat_of_zero_le (show 0 ≤ r1 by omega)
        have HR := hide (HYes.out P N (fun h => by rcases h with h | h | h; exact Bool.noConfusion h; exact hneg h; exact hbig h) rfl rfl)
        have hPN : P + N ≤ bs.length := by omega
        obtain ⟨b, off, rfl, _, hc⟩ := hr.open (by omega)
        have HCL := hide hc
        clear hc HNo HYes HT
        by_cases hend : P < cap
        · have hcv : ∀ c', (convert 22 9 (.slice (some ⟨b, off + P, none⟩) N c')).run Try.prog w = .ok (.string ⟨((bs.drop P).take N).toArray⟩) w := by
            intro c'
            exact conv_part (by omega) HCL.out c'
          generalize ((bs.drop P).take N).toArray = S at hcv HR
          go_enter Try.func31, Try.ntmps31
          go_wp2_with fail
          refine HC.mono ?_
          rintro e w' ⟨rfl, rfl⟩
          go_wp2
          go_ret3
          exact ⟨ret_text HR.out, rfl⟩
        · obtain rfl : N = 0 := by omega
          have hcv : ∀ c', (convert 22 9 (.slice (some ⟨b, off, none⟩) 0 c')).run Try.prog w = .ok (.string ⟨#[]⟩) w := by
            intro c'
            exact conv_part (bs := bs) (P := 0) (N := 0) (by omega) HCL.out c'
          go_enter Try.func31, Try.ntmps31
          go_wp2_with fail
          refine HC.mono ?_
          rintro e w' ⟨rfl, rfl⟩
          go_wp2
          go_ret3
          exact ⟨ret_text (by rw [HR.out]; simp), rfl⟩
end Go.Proofs.Ytbellpalomiokab
/-
  What the tested reader of values answers: valR; nothing that was there has turned.
-/
namespace Go.Proofs.Ytbellpalomiokab
open Go.RowKit
set_option linter.unusedVariables false

set_option maxHeartbeats 1600000 in
theorem implGetVal_any (a : Option Addr) (cap : Nat) (x : Int) (bs : List UInt8) (w : World) (hr : Rd w a bs) (hn : bs.length ≤ 1048580) (hcap : bs.length ≤ cap) (ha : a = none → bs.length = 0 ∧ cap = 0) :
    Calls Try.prog 65 #[.slice a bs.length cap, .int .i64 x] w fun e w' =>
      e = .returned (valT (valR bs x)) ∧ Below w.heap.size w w' := by
  have hr1 : ∀ o, Rd (w.alloc o) a bs := fun o => hr.below ((Below.refl _ _).alloc (Nat.le_refl _) _)
  have hr2 : ∀ o o', Rd ((w.alloc o).alloc o') a bs := fun o o' => (hr1 o).below ((Below.refl _ _).alloc (Nat.le_refl _) _)
  have HR1 := hide hr1
  have HR2 := hide hr2
  clear hr1 hr2 hr
  cases hok : (numR bs x).2.2
  · have HV := hide (valR_no hok)
    have HN := hide (numR_false hok)
    clear hok
    go_enter Try.func65, Try.ntmps65
    go_wp2_with fail
    refine (implGetNum_any a cap x bs _ (HR1.out _) hn hcap ha).mono ?_
    rw [HN.out]
    rintro e w1 ⟨rfl, rfl⟩
    go_wp2
    go_returns
    exact ⟨ret_val HV.out, by go_grown⟩
  · obtain ⟨k, p, hkp⟩ : ∃ k p, numR bs x = (k, p, true) := ⟨(numR bs x).1, (numR bs x).2.1, Prod.ext rfl (Prod.ext rfl hok)⟩
    clear hok
    by_cases hk : k = 1
    · subst hk
      obtain ⟨n, q, b, h2⟩ : ∃ n q b, numR bs p = (n, q, b) := ⟨_, _, _, rfl⟩
      have HV := hide (valR_num hkp h2)
      have HN := hide hkp
      have HN2 := hide h2
      clear hkp h2
      go_enter Try.func65, Try.ntmps65
      go_wp2_with fail
      refine (implGetNum_any a cap x bs _ (HR1.out _) hn hcap ha).mono ?_
      rw [HN.out]
      rintro e w1 ⟨rfl, rfl⟩
      go_wp2_with fail
      refine (implGetNum_any a cap p bs _ (HR2.out _ _) hn hcap ha).mono ?_
      rw [HN2.out]
      rintro e w1 ⟨rfl, rfl⟩
      have hs0 : (ByteArray.mk #[]).size = 0 := rfl
      cases b
      · have HV2 : Hid (valR bs x = (0, 0, ⟨#[]⟩, 0, false)) := by unfold Hid; rw [HV.out]; rfl
        clear HV
        go_wp2
        go_returns
        exact ⟨ret_val HV2.out, by go_grown⟩
      · skip
        go_wp2_with fail
        refine (implValOk_any 1 n ⟨#[]⟩ _ (by decide)).mono ?_
        rintro e w1 ⟨rfl, hb⟩
        have HR := hide (box_below (box_old (box_new w (.int .i64 0) (.int .i64 0) (.string ⟨#[]⟩) 45) (by simp) (.cells #[.int .i64 1, .int .i64 n, .string ⟨#[]⟩] 45)) hb (by simp; omega))
        have HB := hide (box_below (box_new (w.alloc (.cells #[.int .i64 0, .int .i64 0, .string ⟨#[]⟩] 45)) (.int .i64 1) (.int .i64 n) (.string ⟨#[]⟩) 45) hb (by simp))
        have hB1 : Below w.heap.size w w1 := (((Below.refl w.heap.size w).alloc (Nat.le_refl _) _).alloc (by simp) _).trans (hb.mono (by simp; omega))
        simp only [World.size_alloc] at HR HB
        clear hb
        cases hv : valB 1 n ⟨#[]⟩
        · have HV2 : Hid (valR bs x = (0, 0, ⟨#[]⟩, 0, false)) := by unfold Hid; rw [HV.out, hv]; rfl
          clear HV hv
          obtain ⟨c0, c1, c2, f0, f1, f2⟩ := box_cell HR.out
          go_wp2
          refine box_post HR.out (fun w4 h4 gr => ?_)
          clear c0 c1 c2 f0 f1 f2
          obtain ⟨c0, c1, c2, -, -, -⟩ := box_cell h4
          refine bodyPost_ret (v := valT (0, 0, ⟨#[]⟩, 0, false)) (by simp [results, Try.results65, go_sem, c0, c1, c2, valT]) rfl ⟨ret_val HV2.out, below_set hB1 gr (by omega)⟩
        · have HV2 : Hid (valR bs x = (1, n, ⟨#[]⟩, q, true)) := by unfold Hid; rw [HV.out, hv]; rfl
          clear HV hv
          obtain ⟨c0, c1, c2, f0, f1, f2⟩ := box_cell HR.out
          obtain ⟨d0, d1, d2, -, -, -⟩ := box_cell HB.out
          go_wp2
          refine box_post HR.out (fun w4 h4 gr => ?_)
          clear c0 c1 c2 f0 f1 f2
          obtain ⟨c0, c1, c2, -, -, -⟩ := box_cell h4
          refine bodyPost_ret (v := valT (1, n, ⟨#[]⟩, q, true)) (by simp [results, Try.results65, go_sem, c0, c1, c2, valT]) rfl ⟨ret_val HV2.out, below_set hB1 gr (by omega)⟩
    · obtain ⟨s, q, b, h2⟩ : ∃ s q b, textR bs p = (s, q, b) := ⟨_, _, _, rfl⟩
      have hs : s.size ≤ bs.length := by have := textR_size bs p; rw [h2] at this; exact this
      have HV := hide (valR_text hkp hk h2)
      have HN := hide hkp
      have HN2 := hide h2
      have hk1 : (k == 1) = false := by simpa using hk
      clear hkp h2 hk
      go_enter Try.func65, Try.ntmps65
      go_wp2_with fail
      refine (implGetNum_any a cap x bs _ (HR1.out _) hn hcap ha).mono ?_
      rw [HN.out]
      rintro e w1 ⟨rfl, rfl⟩
      go_wp2_with fail
      refine (implGetText_any a cap p bs _ (HR2.out _ _) hn hcap ha).mono ?_
      rw [HN2.out]
      rintro e w1 ⟨rfl, rfl⟩
      cases b
      · have HV2 : Hid (valR bs x = (0, 0, ⟨#[]⟩, 0, false)) := by unfold Hid; rw [HV.out]; rfl
        clear HV
        go_wp2
        go_returns
        exact ⟨ret_val HV2.out, by go_grown⟩
      · skip
        go_wp2_with fail
        refine (implValOk_any k 0 s _ (by unfold maxLen; omega)).mono ?_
        rintro e w1 ⟨rfl, hb⟩
        have HR := hide (box_below (box_old (box_new w (.int .i64 0) (.int .i64 0) (.string ⟨#[]⟩) 45) (by simp) (.cells #[.int .i64 k, .int .i64 0, .string s] 45)) hb (by simp; omega))
        have HB := hide (box_below (box_new (w.alloc (.cells #[.int .i64 0, .int .i64 0, .string ⟨#[]⟩] 45)) (.int .i64 k) (.int .i64 0) (.string s) 45) hb (by simp))
        have hB1 : Below w.heap.size w w1 := (((Below.refl w.heap.size w).alloc (Nat.le_refl _) _).alloc (by simp) _).trans (hb.mono (by simp; omega))
        simp only [World.size_alloc] at HR HB
        clear hb
        cases hv : valB k 0 s
        · have HV2 : Hid (valR bs x = (0, 0, ⟨#[]⟩, 0, false)) := by unfold Hid; rw [HV.out, hv]; rfl
          clear HV hv
          obtain ⟨c0, c1, c2, f0, f1, f2⟩ := box_cell HR.out
          go_wp2
          refine box_post HR.out (fun w4 h4 gr => ?_)
          clear c0 c1 c2 f0 f1 f2
          obtain ⟨c0, c1, c2, -, -, -⟩ := box_cell h4
          refine bodyPost_ret (v := valT (0, 0, ⟨#[]⟩, 0, false)) (by simp [results, Try.results65, go_sem, c0, c1, c2, valT]) rfl ⟨ret_val HV2.out, below_set hB1 gr (by omega)⟩
        · have HV2 : Hid (valR bs x = (k, 0, s, q, true)) := by unfold Hid; rw [HV.out, hv]; rfl
          clear HV hv
          obtain ⟨c0, c1, c2, f0, f1, f2⟩ := box_cell HR.out
          obtain ⟨d0, d1, d2, -, -, -⟩ := box_cell HB.out
          go_wp2
          refine box_post HR.out (fun w4 h4 gr => ?_)
          clear c0 c1 c2 f0 f1 f2
          obtain ⟨c0, c1, c2, -, -, -⟩ := box_cell h4
          refine bodyPost_ret (v := valT (k, 0, s, q, true)) (by simp [results, Try.results65, go_sem, c0, c1, c2, valT]) rfl ⟨ret_val HV2.out, below_set hB1 gr (by omega)⟩
end Go.Proofs.Ytbellpalomiokab
/-
  The contracts of the laws' own helpers on values: toVal copies, szVal counts the text's bytes off.
-/
namespace Go.Proofs.Ytbellpalomiokab
open Go.RowKit
set_option linter.unusedVariables false

end Go.Proofs.Ytbellpalomiokab
/-
  The contract of the laws' own comparison of values: a value is the same as itself.
-/
namespace Go.Proofs.Ytbellpalomiokab
open Go.RowKit
set_option linter.unusedVariables false

set_option maxHeartbeats 800000 in
theorem eqVal_same (K N : Int) (S : ByteArray) (w : World) :
    Calls Try.prog 68 #[.agg #[.int .i64 K, .int .i64 N, .string S], .agg #[.int .i64 K, .int .i64 N, .string S]] w fun e w' =>
      e = .returned (.bool true) ∧ Below w.heap.size w w' := by
  have k1 : (K != K) = false := by simp
  have k2 : (N != N) = false := by simp
  have k3 : (S.toList == S.toList) = true := by simp
  go_enter Try.func68, Try.ntmps68
  go_wp2
  go_ret
  exact ⟨rfl, by go_grown⟩
end Go.Proofs.Ytbellpalomiokab
/-
  The contracts of the laws' own helpers on rows of values and on facts.
-/
namespace Go.Proofs.Ytbellpalomiokab
open Go.RowKit
set_option linter.unusedVariables false

theorem Try.info45 : (Try.prog.info? 45).map (fun i => (i.zero, i.size, i.bytes)) = some (some (.agg #[.int .i64 0, .int .i64 0, .string ⟨#[]⟩]), 3, 32) := by kernel_rfl

/-- the first k values copied, the rest still zero -/
def partV (L : List V3) (k : Nat) : List V3 := L.take k ++ List.replicate (L.length - k) ⟨0, 0, ⟨#[]⟩⟩
theorem partV_length {L : List V3} {k : Nat} (h : k ≤ L.length) : (partV L k).length = L.length := by simp [partV]; omega
theorem partV_zero (L : List V3) : partV L 0 = List.replicate L.length ⟨0, 0, ⟨#[]⟩⟩ := by simp [partV]
theorem partV_end (L : List V3) : partV L L.length = L := by simp [partV]
theorem cells3_set (L M : List V3) (v : V3) (x : V3) :
    (((cells3 (L ++ x :: M)).set (L.length * 3) (.int .i64 v.K)).set (L.length * 3 + 1) (.int .i64 v.N)).set (L.length * 3 + 2) (.string v.S) = cells3 (L ++ v :: M) := by
  have e : ∀ y : V3, cells3 (L ++ y :: M) = cells3 L ++ (.int .i64 y.K :: .int .i64 y.N :: .string y.S :: cells3 M) := fun y => by simp [cells3]
  have hl := cells3_length L
  rw [e, e, List.set_append_right _ _ (by omega), hl, Nat.sub_self, List.set_append_right _ _ (by omega), hl, List.set_append_right _ _ (by omega), hl]
  simp
theorem partV_set {L : List V3} {k : Nat} (h : k < L.length) :
    (((cells3 (partV L k)).set (k * 3) (.int .i64 (vAt L k).K)).set (k * 3 + 1) (.int .i64 (vAt L k).N)).set (k * 3 + 2) (.string (vAt L k).S) = cells3 (partV L (k + 1)) := by
  have h1 : partV L k = L.take k ++ ⟨0, 0, ⟨#[]⟩⟩ :: List.replicate (L.length - (k + 1)) ⟨0, 0, ⟨#[]⟩⟩ := by
    unfold partV; rw [show L.length - k = (L.length - (k + 1)) + 1 by omega, List.replicate_succ]
  have h2 : partV L (k + 1) = L.take k ++ vAt L k :: List.replicate (L.length - (k + 1)) ⟨0, 0, ⟨#[]⟩⟩ := by
    unfold partV; rw [List.take_succ_eq_append_getElem h, vAt_in h, List.append_assoc]; rfl
  have := cells3_set (L.take k) (List.replicate (L.length - (k + 1)) ⟨0, 0, ⟨#[]⟩⟩) (vAt L k) ⟨0, 0, ⟨#[]⟩⟩
  rw [List.length_take, Nat.min_eq_left (by omega)] at this
  rw [h1, h2]; exact this
theorem made3 (n : Nat) : (madeCells #[Value.int .i64 0, .int .i64 0, .string ⟨#[]⟩] (n * 3)).toList = cells3 (List.replicate n ⟨0, 0, ⟨#[]⟩⟩) := by
  have hl : (madeCells #[Value.int .i64 0, .int .i64 0, .string ⟨#[]⟩] (n * 3)).toList.length = n * 3 := by simp [madeCells]
  apply List.ext_getElem?
  intro j
  by_cases hj : j < n * 3
  · obtain ⟨i, r, rfl, hr⟩ : ∃ i r, j = i * 3 + r ∧ r < 3 := ⟨j / 3, j % 3, by omega, by omega⟩
    have hi : i < (List.replicate n (⟨0, 0, ⟨#[]⟩⟩ : V3)).length := by simp; omega
    obtain ⟨g0, g1, g2⟩ := cells3_get (List.replicate n ⟨0, 0, ⟨#[]⟩⟩) i hi
    have ev : vAt (List.replicate n (⟨0, 0, ⟨#[]⟩⟩ : V3)) i = ⟨0, 0, ⟨#[]⟩⟩ := by rw [vAt_in hi]; simp
    rw [ev] at g0 g1 g2
    match r, hr with
    | 0, _ => rw [Nat.add_zero, g0]; simp [madeCells, show i * 3 < n * 3 by omega]
    | 1, _ => rw [g1]; simp [madeCells, show i * 3 + 1 < n * 3 by omega, show (i * 3 + 1) % 3 = 1 by omega]
    | 2, _ => rw [g2]; simp [madeCells, show i * 3 + 2 < n * 3 by omega, show (i * 3 + 2) % 3 = 2 by omega]
  · rw [List.getElem?_eq_none (by omega), List.getElem?_eq_none (by rw [cells3_length]; simp; omega)]

theorem ownsRow_below {w w' : World} {base n size : Nat} {e : TypeId} {v : Value} {xs : List Value} (h : w.ownsRow base e size v n xs) (hb : Below w.heap.size w w') : w'.ownsRow base e size v n xs := by
  refine ⟨h.1, ?_⟩
  rcases h.2 with h2 | ⟨g, cap, cur, h1, hb', hh, rest⟩
  · exact .inl h2
  · exact .inr ⟨g, cap, cur, h1, hb', by rw [hb.block g (Array.getElem?_eq_some_iff.1 hh).1]; exact hh, rest⟩

def szL (L : List V3) : Nat := L.length + (L.map fun v => v.S.size).sum
def sumS (L : List V3) (k : Nat) : Nat := ((L.take k).map fun v => v.S.size).sum
theorem sumS_step {L : List V3} {k : Nat} (h : k < L.length) : sumS L (k + 1) = sumS L k + (vAt L k).S.size := by
  unfold sumS; rw [List.take_succ_eq_append_getElem h, vAt_in h, List.map_append, List.sum_append]; simp only [List.map_cons, List.map_nil, List.sum_cons, List.sum_nil, Nat.add_zero]
theorem sumS_end (L : List V3) : sumS L L.length = (L.map fun v => v.S.size).sum := by unfold sumS; rw [List.take_length]
theorem mem_sum : ∀ {l : List Nat} {x : Nat}, x ∈ l → x ≤ l.sum
  | y :: r, x, h => by
    rw [List.sum_cons]
    rcases List.mem_cons.1 h with rfl | h
    · omega
    · have := mem_sum h; omega
theorem szL_mem {L : List V3} {v : V3} (h : v ∈ L) : v.S.size + L.length ≤ szL L := by
  unfold szL
  have : v.S.size ≤ (L.map fun v => v.S.size).sum := mem_sum (List.mem_map.2 ⟨v, h, rfl⟩)
  omega

theorem eqVal_any (K N : Int) (S : ByteArray) (w : World) (B : Nat) (h : w.heap.size = B) :
    Calls Try.prog 68 #[.agg #[.int .i64 K, .int .i64 N, .string S], .agg #[.int .i64 K, .int .i64 N, .string S]] w fun e w' =>
      e = .returned (.bool true) ∧ Below B w w' := by subst h; exact eqVal_same K N S w
set_option maxRecDepth 100000 in
set_option maxHeartbeats 1600000 in
theorem eqValS_same (a b : Option Addr) (ca cb : Nat) (L : List V3) (w : World) (hr : RdV w a L) (hq : RdV w b L) (hm : L.length ≤ 1048580) :
    Calls Try.prog 34 #[.slice a L.length ca, .slice b L.length cb] w fun e w' =>
      e = .returned (.bool true) ∧ Below w.heap.size w w' := by
  obtain ⟨n, hN⟩ : ∃ n, n = L.length := ⟨_, rfl⟩
  rw [← hN] at hm ⊢
  have HN := hide hN
  clear hN
  have hnn : ((n : Int) != (n : Int)) = false := by simp
  go_enter Try.func34, Try.ntmps34
  go_wp2
  go_loopw [5] (fun i wr => ∃ (k : Nat), k ≤ n ∧ i = .int .i64 k ∧ Below w.heap.size w wr) (fun i _ => n - (intOf i).toNat)
  case atStart => exact ⟨0, Nat.zero_le _, rfl, Below.refl _ _⟩
  case round =>
    obtain ⟨k, hk, rfl, hbel⟩ := hrel
    by_cases hlt : k < n
    · obtain ⟨b1, o1, e1, hbw1, hc1⟩ := hr.open (by rw [← HN.out]; omega)
      obtain ⟨b2, o2, e2, hbw2, hc2⟩ := hq.open (by rw [← HN.out]; omega)
      obtain ⟨c0, c1, c2⟩ := hc1 k (by rw [← HN.out]; exact hlt)
      obtain ⟨d0, d1, d2⟩ := hc2 k (by rw [← HN.out]; exact hlt)
      clear hc1 hc2
      subst e1 e2
      rw [← hbel.cell (p := ⟨b1, o1 + k * 3, none⟩) hbw1] at c0
      rw [← hbel.cell (p := ⟨b1, o1 + k * 3 + 1, none⟩) hbw1] at c1
      rw [← hbel.cell (p := ⟨b1, o1 + k * 3 + 2, none⟩) hbw1] at c2
      rw [← hbel.cell (p := ⟨b2, o2 + k * 3, none⟩) hbw2] at d0
      rw [← hbel.cell (p := ⟨b2, o2 + k * 3 + 1, none⟩) hbw2] at d1
      rw [← hbel.cell (p := ⟨b2, o2 + k * 3 + 2, none⟩) hbw2] at d2
      generalize (vAt L k).K = K at c0 d0
      generalize (vAt L k).N = N at c1 d1
      generalize (vAt L k).S = S at c2 d2
      go_wp2_with fail
      go_region_held3 (fun w' => w'.cell? ⟨b1, o1 + k * 3, none⟩ = some (.int .i64 K) ∧ w'.cell? ⟨b1, o1 + k * 3 + 1, none⟩ = some (.int .i64 N) ∧ w'.cell? ⟨b1, o1 + k * 3 + 2, none⟩ = some (.string S) ∧ w'.cell? ⟨b2, o2 + k * 3, none⟩ = some (.int .i64 K) ∧ w'.cell? ⟨b2, o2 + k * 3 + 1, none⟩ = some (.int .i64 N) ∧ w'.cell? ⟨b2, o2 + k * 3 + 2, none⟩ = some (.string S) ∧ Below w.heap.size w w' ∧ w.heap.size ≤ w'.heap.size) (first | exact ⟨c0, c1, c2, d0, d1, d2, hbel.drew, hbel.size⟩ | exact keep7 (by assumption) (by assumption))
        (first | (go_at_call 68; refine (eqVal_same _ _ _ _).mono ?_; rintro e w2 ⟨rfl, hb⟩))
      all_goals
        obtain ⟨-, -, -, -, -, -, hB2, -⟩ : w2.cell? ⟨b1, o1 + k * 3, none⟩ = some (.int .i64 K) ∧ w2.cell? ⟨b1, o1 + k * 3 + 1, none⟩ = some (.int .i64 N) ∧ w2.cell? ⟨b1, o1 + k * 3 + 2, none⟩ = some (.string S) ∧ w2.cell? ⟨b2, o2 + k * 3, none⟩ = some (.int .i64 K) ∧ w2.cell? ⟨b2, o2 + k * 3 + 1, none⟩ = some (.int .i64 N) ∧ w2.cell? ⟨b2, o2 + k * 3 + 2, none⟩ = some (.string S) ∧ Below w.heap.size w w2 ∧ w.heap.size ≤ w2.heap.size := by assumption
        go_wp2
        go_roundw
        case rel => exact ⟨k + 1, by omega, by go_num, hB2⟩
        case measure => simp [intOf]; omega
    · go_wp2
      go_ret
      exact ⟨rfl, hbel⟩
end Go.Proofs.Ytbellpalomiokab
/-
  What the readers of a fact's values answer, the tested one and the model's alike.
-/
namespace Go.Proofs.Ytbellpalomiokab
open Go.RowKit
set_option linter.unusedVariables false

theorem app3 (L : List V3) (u : V3) : cells3 L ++ [.int .i64 u.K, .int .i64 u.N, .string u.S] = cells3 (L ++ [u]) := by simp [cells3]
theorem news_src (W : World) (u : V3) : ∀ j x, ([.int .i64 u.K, .int .i64 u.N, .string u.S] : List Value)[j]? = some x → (W.alloc (.cells #[.int .i64 u.K, .int .i64 u.N, .string u.S] 45)).cell? ((⟨W.heap.size, 0, none⟩ : Addr).add j) = some x := by
  obtain ⟨h0, h1, h2, -, -, -⟩ := box_cell (box_new W (.int .i64 u.K) (.int .i64 u.N) (.string u.S) 45)
  intro j x hj
  rw [Addr.add_lit, Nat.zero_add]
  match j, hj with
  | 0, hj => rw [h0]; simpa using hj
  | 1, hj => rw [h1]; simpa using hj
  | 2, hj => rw [h2]; simpa using hj
theorem news_one (u : V3) : ∀ x ∈ ([.int .i64 u.K, .int .i64 u.N, .string u.S] : List Value), x.oneCell' = true := by
  intro x hx
  simp only [List.mem_cons, List.not_mem_nil, or_false] at hx
  rcases hx with rfl | rfl | rfl <;> rfl

set_option maxRecDepth 100000 in
set_option maxHeartbeats 3200000 in
theorem getFields_any (a : Option Addr) (cap : Nat) (x : Int) (bs : List UInt8) (w : World) (hr : Rd w a bs) (hn : bs.length ≤ 1048580) (hcap : bs.length ≤ cap) (ha : a = none → bs.length = 0 ∧ cap = 0) :
    Calls Try.prog 32 #[.slice a bs.length cap, .int .i64 x] w fun e w' => GetsV bs x w.heap.size e w' ∧ Below w.heap.size w w' := by
  obtain ⟨i0, hi, hz0, hz1, hz2⟩ := info_parts Try.info45
  obtain ⟨n, p, ok, hnum⟩ : ∃ n p ok, numR bs x = (n, p, ok) := ⟨_, _, _, rfl⟩
  have HNum := hide hnum
  have HNone : Hid (fieldsR bs x = none → ∀ W : World, GetsV bs x w.heap.size (.returned (.tuple #[.slice none 0 0, .int .i64 0, .bool false])) W) := fun h W => ⟨_, _, _, [], rfl, World.ownsRow_nil _ _ _ _, by simp, by simp, h⟩
  cases ok
  · have HF := hide (HNone.out (fieldsR_no hnum))
    clear hnum
    go_enter Try.func32, Try.ntmps32
    go_wp2_with fail
    refine (implGetNum_any a cap x bs _ hr hn hcap ha).mono ?_
    rw [HNum.out]
    rintro e w1 ⟨rfl, rfl⟩
    go_wp2
    go_ret3
    exact ⟨HF.out _, Below.refl _ _⟩
  cases hin : inB n 0 5
  · have HF := hide (HNone.out (fieldsR_out hnum hin))
    have hout : ¬ (0 ≤ n ∧ n ≤ 5) := fun h => by rw [inB_t h] at hin; cases hin
    clear hnum hin
    by_cases hneg : n < 0
    · go_enter Try.func32, Try.ntmps32
      go_wp2_with fail
      refine (implGetNum_any a cap x bs _ hr hn hcap ha).mono ?_
      rw [HNum.out]
      rintro e w1 ⟨rfl, rfl⟩
      go_wp2
      go_ret3
      exact ⟨HF.out _, Below.refl _ _⟩
    · have hbig : (5 : Int) < n := by omega
      go_enter Try.func32, Try.ntmps32
      go_wp2_with fail
      refine (implGetNum_any a cap x bs _ hr hn hcap ha).mono ?_
      rw [HNum.out]
      rintro e w1 ⟨rfl, rfl⟩
      go_wp2
      go_ret3
      exact ⟨HF.out _, Below.refl _ _⟩
  have h05 : 0 ≤ n ∧ n ≤ 5 := by unfold inB at hin; simpa using hin
  obtain ⟨m, rfl⟩ := Int.eq_ofNat_of_zero_le h05.1
  have hm5 : m ≤ 5 := by omega
  have HFY : Hid (fieldsR bs x = valsR bs m p) := fieldsR_yes hnum hin
  clear hnum hin h05
  go_enter Try.func32, Try.ntmps32
  go_wp2_with fail
  refine (implGetNum_any a cap x bs _ hr hn hcap ha).mono ?_
  rw [HNum.out]
  rintro e w1 ⟨rfl, rfl⟩
  go_wp2
  go_loopw [8, 10, 32] (fun y v i wr => ∃ (q : Int) (L : List V3), L.length ≤ m ∧ i = .int .i64 (L.length : Int) ∧ y = .int .i64 q ∧ wr.ownsRow w1.heap.size 45 3 v L.length (cells3 L) ∧ Going bs m p L q ∧ (∀ u ∈ L, u.S.size ≤ bs.length) ∧ Below w1.heap.size w1 wr) (fun _ _ i _ => m - (intOf i).toNat)
  case atStart => exact ⟨p, [], Nat.zero_le _, rfl, rfl, World.ownsRow_nil _ _ _ _, going_0 bs m p, by simp, Below.refl _ _⟩
  case round =>
    obtain ⟨q, L, hL, rfl, rfl, hown, hgo, hsz, hbel⟩ := hrel
    have HGo := hide hgo
    have HSz := hide hsz
    clear hgo hsz
    obtain ⟨g, c, e0, -, -, -, -⟩ := rdV_owns hown
    by_cases hlt : L.length < m
    · obtain ⟨K, N, S, q2, b, hv⟩ : ∃ K N S q2 b, valR bs q = (K, N, S, q2, b) := ⟨_, _, _, _, _, rfl⟩
      have HV := hide hv
      have HS : Hid (S.size ≤ bs.length) := by have := valR_S bs q; rw [hv] at this; exact this
      clear hv
      subst e0
      go_wp2_with fail
      refine (implGetVal_any a cap q bs _ (hr.below hbel) hn hcap ha).mono ?_
      rw [HV.out]
      unfold valT
      rintro e w3 ⟨rfl, hb3⟩
      have hbel3 : Below w1.heap.size w1 w3 := hbel.trans (hb3.mono hbel.size)
      have hown3 := ownsRow_below hown hb3
      clear hb3 hbel hown
      cases b
      · have HF := hide (HNone.out (HFY.out.trans (going_no HGo.out hlt HV.out)))
        go_wp2
        go_ret3
        exact ⟨HF.out _, hbel3.alloc hbel3.size _⟩
      · have HG2 := hide (going_step HGo.out hlt HV.out)
        have hown4 := (hown3.alloc (.cells #[.int .i64 K, .int .i64 N, .string S] 45)).alloc (.cells #[.int .i64 K, .int .i64 N, .string S] 45)
        have HO4 := hide hown4
        have hsrc := news_src (w3.alloc (.cells #[.int .i64 K, .int .i64 N, .string S] 45)) ⟨K, N, S⟩
        have HSrc := hide hsrc
        have HB4 := hide ((hbel3.alloc hbel3.size (.cells #[.int .i64 K, .int .i64 N, .string S] 45)).alloc (by have := hbel3.size; simp; omega) (.cells #[.int .i64 K, .int .i64 N, .string S] 45))
        clear hown3 hown4 hsrc hbel3
        go_wp2_with (at_builtin; refine wpList_append_lies _ rfl (.tmp 43) (.tmp 45) 23 rfl w1.heap.size 45 i0 (.agg #[.int .i64 0, .int .i64 0, .string ⟨#[]⟩]) 3 32 Try.underlying23 hi hz0 hz1 hz2 rfl (by omega) (.slice g L.length c) L.length (cells3 L) rfl HO4.out ⟨(w3.alloc (.cells #[.int .i64 K, .int .i64 N, .string S] 45)).heap.size, 0, none⟩ 1 1 [.int .i64 K, .int .i64 N, .string S] ?hx rfl HSrc.out (news_one ⟨K, N, S⟩) (by omega) (by unfold maxLen; omega) (by omega) HB4.out.size _ rfl ?_)
        case hx => simp [Act.eval]
        intro g5 c5 w5 ho5 hg5 hat5 hlt5
        have HO5 : Hid (w5.ownsRow w1.heap.size 45 3 (.slice (some ⟨g5, 0, none⟩) (L.length + 1) c5) (L ++ [(⟨K, N, S⟩ : V3)]).length (cells3 (L ++ [⟨K, N, S⟩]))) := by
          unfold Hid
          rw [← app3, List.length_append]
          exact ho5
        have HB5 := hide (HB4.out.grown hg5 HB4.out.size (fun k hk => (HO4.out.lt k hk).1))
        have HSz5 : Hid (∀ u ∈ L ++ [(⟨K, N, S⟩ : V3)], u.S.size ≤ bs.length) := fun u hu => by
          rcases List.mem_append.1 hu with hu | hu
          · exact HSz.out u hu
          · simp only [List.mem_cons, List.not_mem_nil, or_false] at hu
            rw [hu]; exact HS.out
        clear ho5 hg5 hat5 hlt5 HO4 HSrc HB4 HSz
        go_wp2
        go_roundw
        case rel => exact ⟨q2, L ++ [⟨K, N, S⟩], by simp; omega, by simp, rfl, HO5.out, HG2.out, HSz5.out, HB5.out⟩
        case measure => simp [intOf]; omega
    · obtain hLm : L.length = m := by omega
      have HF : Hid (GetsV bs x w1.heap.size (.returned (.tuple #[.slice g L.length c, .int .i64 q, .bool true])) wr) := ⟨_, _, _, L, rfl, by rw [← e0]; exact hown, by omega, HSz.out, HFY.out.trans (going_end HGo.out hLm)⟩
      subst e0
      go_wp2
      go_ret3
      exact ⟨HF.out, hbel⟩
end Go.Proofs.Ytbellpalomiokab
/-
  What a list of terms computes, plainly: allR.
-/
namespace Go.Proofs.Ytbellpalomiokab
open Go.RowKit
set_option linter.unusedVariables false

def allO (B : List B4) : List X11 → Option (List V3)
  | [] => some []
  | x :: r => match compO x B with
    | none => none
    | some v => (allO B r).map (v :: ·)
/-- each one's value, and whether each has one (else none at all) -/
def allR (es : List X11) (B : List B4) : List V3 × Bool := match allO B es with
  | some L => (L, true)
  | none => ([], false)
theorem eAt_cons {T : Type} [Inhabited T] (x : T) (r : List T) (i : Nat) : eAt (x :: r) (i + 1) = eAt r i := by simp [eAt, List.getD]
theorem vAt_cons (x : V3) (r : List V3) (i : Nat) : vAt (x :: r) (i + 1) = vAt r i := by simp [vAt, List.getD]
theorem allO_yes {B : List B4} : ∀ {es : List X11} {L : List V3}, L.length = es.length → (∀ j, j < es.length → compO (eAt es j) B = some (vAt L j)) → allO B es = some L
  | [], [], _, _ => rfl
  | x :: r, v :: s, hl, h => by
    have h0 : compO x B = some v := h 0 (by simp)
    have hr := allO_yes (es := r) (L := s) (by simpa using hl) (fun j hj => by
      have := h (j + 1) (by simpa using hj)
      rwa [eAt_cons, vAt_cons] at this)
    simp only [allO, h0, hr, Option.map]
  | [], _ :: _, hl, _ => by simp at hl
  | _ :: _, [], hl, _ => by simp at hl
theorem allO_no {B : List B4} : ∀ {es : List X11} {k : Nat}, k < es.length → compO (eAt es k) B = none → allO B es = none
  | [], k, hk, _ => absurd hk (Nat.not_lt_zero _)
  | x :: r, 0, _, h => by
    have h0 : compO x B = none := h
    simp only [allO, h0]
  | x :: r, k + 1, hk, h => by
    have hr := allO_no (es := r) (k := k) (by simpa using hk) (by rwa [eAt_cons] at h)
    cases hx : compO x B with
    | none => simp only [allO, hx]
    | some v => simp only [allO, hx, hr, Option.map]
theorem allR_yes {B : List B4} {es : List X11} {L : List V3} (hl : L.length = es.length) (h : ∀ j, j < es.length → compO (eAt es j) B = some (vAt L j)) : allR es B = (L, true) := by
  unfold allR; rw [allO_yes hl h]
theorem allR_no {B : List B4} {es : List X11} {k : Nat} (hk : k < es.length) (h : compO (eAt es k) B = none) : allR es B = ([], false) := by
  unfold allR; rw [allO_no hk h]
theorem allO_length {B : List B4} : ∀ {es : List X11} {L : List V3}, allO B es = some L → L.length = es.length
  | [], L, h => by simp only [allO, Option.some.injEq] at h; rw [← h]; rfl
  | x :: r, L, h => by
    cases hx : compO x B with
    | none => simp only [allO, hx] at h; cases h
    | some v =>
      cases hr : allO B r with
      | none => simp only [allO, hx, hr, Option.map] at h; cases h
      | some s =>
        simp only [allO, hx, hr, Option.map, Option.some.injEq] at h
        rw [← h, List.length_cons, List.length_cons, allO_length hr]
theorem allR_len {B : List B4} {es : List X11} : (allR es B).1.length ≤ es.length := by
  unfold allR
  cases h : allO B es with
  | none => simp
  | some L => simp only; rw [allO_length h]; exact Nat.le_refl _
theorem vAt_snoc_lt {L : List V3} {v : V3} {j : Nat} (h : j < L.length) : vAt (L ++ [v]) j = vAt L j := by
  rw [vAt_in (by simp; omega), vAt_in h, List.getElem_append_left h]
theorem vAt_snoc_eq {L : List V3} {v : V3} : vAt (L ++ [v]) L.length = v := by
  rw [vAt_in (by simp)]; simp
/-- a list of values and a flag are answered, the values in memory of the call's own -/
def GivesA (e : Ending) (w' : World) (w : World) (r : List V3 × Bool) : Prop := ∃ v, e = .returned (.tuple #[v, .bool r.2]) ∧ w'.ownsRow w.heap.size 45 3 v r.1.length (cells3 r.1) ∧ Below w.heap.size w w'
end Go.Proofs.Ytbellpalomiokab
/-
  What a list of terms computes, looked at one by one; what comes is right where what is bound is.
-/
namespace Go.Proofs.Ytbellpalomiokab
open Go.RowKit
set_option linter.unusedVariables false

def X11.has (B : List B4) (x : X11) : Bool := (compO x B).isSome
/-- each of the first k has a value -/
def hasK (B : List B4) (es : List X11) (k : Nat) : Bool := (es.take k).all (X11.has B)
theorem hasK_0 (B : List B4) (es : List X11) : hasK B es 0 = true := by unfold hasK; simp
theorem hasK_step {B : List B4} {es : List X11} {k : Nat} (h : k < es.length) : hasK B es (k + 1) = (hasK B es k && (compO (eAt es k) B).isSome) := by
  unfold hasK
  rw [List.take_succ_eq_append_getElem h, List.all_append, eAt_in h]
  simp [X11.has]
theorem allO_at {B : List B4} : ∀ {es : List X11} {L : List V3}, allO B es = some L → ∀ j, j < es.length → compO (eAt es j) B = some (vAt L j)
  | [], L, _, j, hj => absurd hj (Nat.not_lt_zero _)
  | x :: r, L, h, j, hj => by
    cases hx : compO x B with
    | none => simp only [allO, hx] at h; cases h
    | some v =>
      cases hr : allO B r with
      | none => simp only [allO, hx, hr, Option.map] at h; cases h
      | some s =>
        simp only [allO, hx, hr, Option.map, Option.some.injEq] at h
        subst h
        cases j with
        | zero => exact hx
        | succ j => rw [eAt_cons, vAt_cons]; exact allO_at hr j (by simpa using hj)
theorem allO_ex {B : List B4} : ∀ {es : List X11}, allO B es = none → ∃ x ∈ es, compO x B = none
  | [], h => by simp only [allO] at h; cases h
  | x :: r, h => by
    cases hx : compO x B with
    | none => exact ⟨x, List.mem_cons_self .., hx⟩
    | some v =>
      cases hr : allO B r with
      | none =>
        obtain ⟨y, hy, h'⟩ := allO_ex hr
        exact ⟨y, List.mem_cons_of_mem _ hy, h'⟩
      | some s => simp only [allO, hx, hr, Option.map] at h; cases h
theorem allR_open {B : List B4} {es : List X11} {R : List V3} {bb : Bool} (h : allR es B = (R, bb)) :
    bb = hasK B es es.length ∧ (bb = true → R.length = es.length ∧ ∀ j, j < es.length → compO (eAt es j) B = some (vAt R j)) ∧ (bb = false → R = []) := by
  unfold allR at h
  cases ho : allO B es with
  | none =>
    rw [ho] at h
    simp only [Prod.mk.injEq] at h
    obtain ⟨rfl, rfl⟩ := h
    refine ⟨?_, (fun e => by cases e), fun _ => rfl⟩
    obtain ⟨x, hx, hn⟩ := allO_ex ho
    unfold hasK
    rw [List.take_length]
    symm
    rw [Bool.eq_false_iff]
    intro ha
    have := List.all_eq_true.1 ha x hx
    unfold X11.has at this
    rw [hn] at this; cases this
  | some L =>
    rw [ho] at h
    simp only [Prod.mk.injEq] at h
    obtain ⟨rfl, rfl⟩ := h
    refine ⟨?_, fun _ => ⟨allO_length ho, allO_at ho⟩, (fun e => by cases e)⟩
    unfold hasK
    rw [List.take_length]
    symm
    rw [List.all_eq_true]
    intro x hx
    obtain ⟨j, hj, rfl⟩ := List.getElem_of_mem hx
    have := allO_at ho j hj
    rw [eAt_in hj] at this
    unfold X11.has
    rw [this]; rfl
theorem argV_ok {K : Int} {S : ByteArray} {V v : V3} {B : List B4} (hv : K = 2 → V.ok = true) (hb : ∀ x ∈ B, x.V.ok = true) (h : argV K S V B = some v) : v.ok = true := by
  unfold argV at h
  split at h
  · obtain ⟨x, hx, _, rfl⟩ := bindO_mem h
    exact hb x hx
  · split at h
    · rename_i h2
      simp only [Option.some.injEq] at h
      rw [← h]; exact hv h2
    · cases h
theorem sumO_ok {v u x : V3} {n : Int} (h : sumO v u n = some x) : x.ok = true := by
  unfold sumO at h
  split at h
  · rename_i hc
    simp only [Option.some.injEq] at h
    rw [← h]
    simp only [Bool.and_eq_true] at hc
    show valB 1 n ⟨#[]⟩ = true
    rw [valB_inB]
    exact hc.2
  · cases h
theorem compO_ok {x : X11} {B : List B4} {v : V3} (hx : x.L.K = 2 → x.L.V.ok = true) (hb : ∀ y ∈ B, y.V.ok = true) (h : compO x B = some v) : v.ok = true := by
  unfold compO at h
  rcases op_cases x.Op with e | e | e | ⟨_, _, _, h0, h1, h2⟩
  · rw [e, compV0] at h; exact argV_ok hx hb h
  · rw [e, compV1] at h; exact sumO_ok h
  · rw [e, compV2] at h; exact sumO_ok h
  · rw [compV_no _ _ h0 h1 h2] at h; cases h
end Go.Proofs.Ytbellpalomiokab
/-
  What the tested sums and differences of values answer: sumV; nothing that was there has turned.
-/
namespace Go.Proofs.Ytbellpalomiokab
open Go.RowKit
set_option linter.unusedVariables false

theorem ta_num_num (n : Int) (w : World) : (Instr.typeAssert (.iface 112 (.int .i64 n)) 83 112 true).run Try.prog w = .ok (.tuple #[.int .i64 n, .bool true]) w := by kernel_rfl
theorem ta_nil_num (w : World) : (Instr.typeAssert .nilIface 83 112 true).run Try.prog w = .ok (.tuple #[.int .i64 0, .bool false]) w := by kernel_rfl
theorem ta_text_num (s : ByteArray) (w : World) : (Instr.typeAssert (.iface 113 (.string s)) 83 112 true).run Try.prog w = .ok (.tuple #[.int .i64 0, .bool false]) w := by kernel_rfl

set_option maxHeartbeats 800000 in
theorem numberOfSpoken_any (K N : Int) (S : ByteArray) (w : World) :
    Calls Try.prog 77 #[spokV K N S] w fun e w' => e = .returned (.tuple #[.int .i64 (numN K N S), .bool (isNum K N S)]) ∧ w' = w := by
  have HN : Hid (numN K N S = if isNum K N S then N else 0) := rfl
  have t1 := ta_num_num
  have t2 := ta_nil_num
  have t3 := ta_text_num
  by_cases hK : K = 1
  · subst hK
    cases hv : valB 1 N S
    · have HI : Hid (isNum 1 N S = false) := by unfold Hid isNum; rw [hv]; rfl
      rw [spokV_no hv]
      go_enter Try.func77, Try.ntmps77
      go_wp2
      go_ret2
      exact ⟨by rw [HN.out, HI.out]; rfl, rfl⟩
    · have HI : Hid (isNum 1 N S = true) := by unfold Hid isNum; rw [hv]; rfl
      rw [spokV_one hv]
      go_enter Try.func77, Try.ntmps77
      go_wp2
      go_ret2
      exact ⟨by rw [HN.out, HI.out]; rfl, rfl⟩
  · have HI : Hid (isNum K N S = false) := by unfold Hid isNum; simp [hK]
    cases hv : valB K N S
    · rw [spokV_no hv]
      clear hK
      go_enter Try.func77, Try.ntmps77
      go_wp2
      go_ret2
      exact ⟨by rw [HN.out, HI.out]; rfl, rfl⟩
    · have e : spokV K N S = .iface 113 (.string S) := by unfold spokV; rw [hv, if_pos rfl, if_neg hK]
      rw [e]
      clear hK e
      go_enter Try.func77, Try.ntmps77
      go_wp2
      go_ret2
      exact ⟨by rw [HN.out, HI.out]; rfl, rfl⟩

theorem ret_tup {b b' : Bool} {n : Int} (h : b = b') : Ending.returned (tupV b n) = .returned (tupV b' n) := by rw [h]

set_option maxHeartbeats 800000 in
theorem numberIf_any (ok : Bool) (n : Int) (w : World) :
    Calls Try.prog 78 #[.bool ok, .int .i64 n] w fun e w' => e = .returned (tupV (ok && inB n (-1000000000) 1000000000) n) ∧ Below w.heap.size w w' := by
  cases ok
  · go_enter Try.func78, Try.ntmps78
    go_wp2
    go_returns
    exact ⟨rfl, by go_grown⟩
  · have HB := hide (valB_inB n)
    cases hi : inB n (-1000000000) 1000000000
    all_goals
      rw [hi] at HB
      go_enter Try.func78, Try.ntmps78
      go_wp2_with fail
      refine (implValOk_any 1 n ⟨#[]⟩ _ (by decide)).mono ?_
      rw [HB.out]
      rintro e w1 ⟨rfl, hb⟩
      have HG := hide (box_below (box_old (box_new w (.int .i64 0) (.int .i64 0) (.string ⟨#[]⟩) 45) (by simp) (.cells #[.int .i64 1, .int .i64 n, .string ⟨#[]⟩] 45)) hb (by simp; omega))
      obtain ⟨c0, c1, c2, f0, f1, f2⟩ := box_cell HG.out
      have HG2 := hide (box_below (box_new (w.alloc (.cells #[.int .i64 0, .int .i64 0, .string ⟨#[]⟩] 45)) (.int .i64 1) (.int .i64 n) (.string ⟨#[]⟩) 45) hb (by simp))
      obtain ⟨d0, d1, d2, -, -, -⟩ := box_cell HG2.out
      simp only [World.size_alloc] at d0 d1 d2
      have hb1 : Below w.heap.size w w1 := (((Below.refl w.heap.size w).alloc (Nat.le_refl _) _).alloc (by simp) _).trans (hb.mono (by simp; omega))
      clear hb HG2
      go_wp2
      refine box_post HG.out (fun w2 h3 gr => ?_)
      clear c0 c1 c2 f0 f1 f2
      obtain ⟨c0, c1, c2, -, -, -⟩ := box_cell h3
      refine bodyPost_ret (v := tupV _ n) (by simp [results, Try.results78, go_sem, c0, c1, c2, tupV]) rfl ⟨rfl, below_set hb1 gr (Nat.le_refl _)⟩

set_option maxHeartbeats 1600000 in
theorem implAddVals_any (K N : Int) (S : ByteArray) (K' N' : Int) (S' : ByteArray) (w : World) (hs : S.size ≤ maxLen) (hs' : S'.size ≤ maxLen) :
    Calls Try.prog 48 #[.agg #[.int .i64 K, .int .i64 N, .string S], .agg #[.int .i64 K', .int .i64 N', .string S']] w fun e w' =>
      e = .returned (sumV K N S K' N' S' (numN K N S + numN K' N' S')) ∧ Below w.heap.size w w' := by
  obtain ⟨n1, n2⟩ := numN_in K N S
  obtain ⟨n3, n4⟩ := numN_in K' N' S'
  go_enter Try.func48, Try.ntmps48
  go_wp2_with fail
  refine (spokenOf_any K N S _ hs).mono ?_
  rintro e w1 ⟨rfl, hb1⟩
  have HB := hide (box_below (box_old (box_new (w.alloc (.cells #[.int .i64 K, .int .i64 N, .string S] 45)) (.int .i64 K') (.int .i64 N') (.string S') 45) (by simp) (.cells #[.int .i64 0, .int .i64 0, .string ⟨#[]⟩] 45)) hb1 (by simp))
  have HR := hide (box_below (box_new ((w.alloc (.cells #[.int .i64 K, .int .i64 N, .string S] 45)).alloc (.cells #[.int .i64 K', .int .i64 N', .string S'] 45)) (.int .i64 0) (.int .i64 0) (.string ⟨#[]⟩) 45) hb1 (by simp))
  have hB1 : Below w.heap.size w w1 := ((((Below.refl w.heap.size w).alloc (Nat.le_refl _) _).alloc (by simp) _).alloc (by simp; omega) _).trans (hb1.mono (by simp; omega))
  have hz1 : w.heap.size + 3 ≤ w1.heap.size := by have := hb1.size; simp at this; omega
  simp only [World.size_alloc] at HB HR
  clear hb1
  obtain ⟨c0, c1, c2, -, -, -⟩ := box_cell HB.out
  go_wp2_with fail
  refine (numberOfSpoken_any K N S _).mono ?_
  rintro e w' ⟨rfl, rfl⟩
  go_wp2_with fail
  refine (spokenOf_any K' N' S' _ hs').mono ?_
  rintro e w2 ⟨rfl, hb2⟩
  have HR2 := hide (box_below HR.out hb2 (by omega))
  have hB2 : Below w.heap.size w w2 := hB1.trans (hb2.mono (by omega))
  have hz2 : w.heap.size + 3 ≤ w2.heap.size := by have := hb2.size; omega
  clear hb2 HR HB c0 c1 c2 hB1 hz1
  go_wp2_with fail
  refine (numberOfSpoken_any K' N' S' _).mono ?_
  rintro e w' ⟨rfl, rfl⟩
  have HV : Hid (∀ b, isNum K N S = b → sumV K N S K' N' S' (numN K N S + numN K' N' S') = tupV (b && isNum K' N' S' && inB (numN K N S + numN K' N' S') (-1000000000) 1000000000) (numN K N S + numN K' N' S')) := fun b h => by rw [sumV, h]
  generalize hx : numN K N S = x at n1 n2 HV ⊢
  generalize hy : numN K' N' S' = y at n3 n4 HV ⊢
  have HX := hide hx
  have HY := hide hy
  clear hx hy
  generalize isNum K' N' S' = b' at HV ⊢
  cases hi : isNum K N S
  all_goals
    have HV2 := hide (HV.out _ hi)
    clear HV hi
    go_wp2_with fail
    refine (numberIf_any _ _ _).mono ?_
    rintro e w3 ⟨rfl, hb3⟩
    have HR3 := hide (box_below HR2.out hb3 (by omega))
    have hB3 : Below w.heap.size w w3 := hB2.trans (hb3.mono (by omega))
    obtain ⟨c0, c1, c2, f0, f1, f2⟩ := box_cell HR3.out
    clear hb3 HR2
    generalize hT : tupV _ _ = tv
    obtain ⟨r1, r2, rb, rfl⟩ : ∃ r1 r2 b', tv = .tuple #[.agg #[.int .i64 r1, .int .i64 r2, .string ⟨#[]⟩], .bool b'] := by rw [← hT]; exact tupV_open _ _
    have HT := hide hT
    clear hT
    go_wp2
    refine box_post HR3.out (fun w4 h4 gr => ?_)
    clear c0 c1 c2 f0 f1 f2
    obtain ⟨c0, c1, c2, -, -, -⟩ := box_cell h4
    refine bodyPost_ret (v := .tuple #[.agg #[.int .i64 r1, .int .i64 r2, .string ⟨#[]⟩], .bool rb]) (by simp [results, Try.results48, go_sem, c0, c1, c2]) rfl ⟨by rw [HX.out, HY.out]; exact congrArg _ (HT.out.symm.trans HV2.out.symm), below_set hB3 gr (by omega)⟩

set_option maxHeartbeats 1600000 in
theorem implSubVals_any (K N : Int) (S : ByteArray) (K' N' : Int) (S' : ByteArray) (w : World) (hs : S.size ≤ maxLen) (hs' : S'.size ≤ maxLen) :
    Calls Try.prog 49 #[.agg #[.int .i64 K, .int .i64 N, .string S], .agg #[.int .i64 K', .int .i64 N', .string S']] w fun e w' =>
      e = .returned (sumV K N S K' N' S' (numN K N S - numN K' N' S')) ∧ Below w.heap.size w w' := by
  obtain ⟨n1, n2⟩ := numN_in K N S
  obtain ⟨n3, n4⟩ := numN_in K' N' S'
  go_enter Try.func49, Try.ntmps49
  go_wp2_with fail
  refine (spokenOf_any K N S _ hs).mono ?_
  rintro e w1 ⟨rfl, hb1⟩
  have HB := hide (box_below (box_old (box_new (w.alloc (.cells #[.int .i64 K, .int .i64 N, .string S] 45)) (.int .i64 K') (.int .i64 N') (.string S') 45) (by simp) (.cells #[.int .i64 0, .int .i64 0, .string ⟨#[]⟩] 45)) hb1 (by simp))
  have HR := hide (box_below (box_new ((w.alloc (.cells #[.int .i64 K, .int .i64 N, .string S] 45)).alloc (.cells #[.int .i64 K', .int .i64 N', .string S'] 45)) (.int .i64 0) (.int .i64 0) (.string ⟨#[]⟩) 45) hb1 (by simp))
  have hB1 : Below w.heap.size w w1 := ((((Below.refl w.heap.size w).alloc (Nat.le_refl _) _).alloc (by simp) _).alloc (by simp; omega) _).trans (hb1.mono (by simp; omega))
  have hz1 : w.heap.size + 3 ≤ w1.heap.size := by have := hb1.size; simp at this; omega
  simp only [World.size_alloc] at HB HR
  clear hb1
  obtain ⟨c0, c1, c2, -, -, -⟩ := box_cell HB.out
  go_wp2_with fail
  refine (numberOfSpoken_any K N S _).mono ?_
  rintro e w' ⟨rfl, rfl⟩
  go_wp2_with fail
  refine (spokenOf_any K' N' S' _ hs').mono ?_
  rintro e w2 ⟨rfl, hb2⟩
  have HR2 := hide (box_below HR.out hb2 (by omega))
  have hB2 : Below w.heap.size w w2 := hB1.trans (hb2.mono (by omega))
  have hz2 : w.heap.size + 3 ≤ w2.heap.size := by have := hb2.size; omega
  clear hb2 HR HB c0 c1 c2 hB1 hz1
  go_wp2_with fail
  refine (numberOfSpoken_any K' N' S' _).mono ?_
  rintro e w' ⟨rfl, rfl⟩
  have HV : Hid (∀ b, isNum K N S = b → sumV K N S K' N' S' (numN K N S - numN K' N' S') = tupV (b && isNum K' N' S' && inB (numN K N S - numN K' N' S') (-1000000000) 1000000000) (numN K N S - numN K' N' S')) := fun b h => by rw [sumV, h]
  generalize hx : numN K N S = x at n1 n2 HV ⊢
  generalize hy : numN K' N' S' = y at n3 n4 HV ⊢
  have HX := hide hx
  have HY := hide hy
  clear hx hy
  generalize isNum K' N' S' = b' at HV ⊢
  cases hi : isNum K N S
  all_goals
    have HV2 := hide (HV.out _ hi)
    clear HV hi
    go_wp2_with fail
    refine (numberIf_any _ _ _).mono ?_
    rintro e w3 ⟨rfl, hb3⟩
    have HR3 := hide (box_below HR2.out hb3 (by omega))
    have hB3 : Below w.heap.size w w3 := hB2.trans (hb3.mono (by omega))
    obtain ⟨c0, c1, c2, f0, f1, f2⟩ := box_cell HR3.out
    clear hb3 HR2
    generalize hT : tupV _ _ = tv
    obtain ⟨r1, r2, rb, rfl⟩ : ∃ r1 r2 b', tv = .tuple #[.agg #[.int .i64 r1, .int .i64 r2, .string ⟨#[]⟩], .bool b'] := by rw [← hT]; exact tupV_open _ _
    have HT := hide hT
    clear hT
    go_wp2
    refine box_post HR3.out (fun w4 h4 gr => ?_)
    clear c0 c1 c2 f0 f1 f2
    obtain ⟨c0, c1, c2, -, -, -⟩ := box_cell h4
    refine bodyPost_ret (v := .tuple #[.agg #[.int .i64 r1, .int .i64 r2, .string ⟨#[]⟩], .bool rb]) (by simp [results, Try.results49, go_sem, c0, c1, c2]) rfl ⟨by rw [HX.out, HY.out]; exact congrArg _ (HT.out.symm.trans HV2.out.symm), below_set hB3 gr (by omega)⟩

end Go.Proofs.Ytbellpalomiokab
/-
  Boxes of eleven cells, and two or three boxes side by side: their cells set, what stands.
-/
namespace Go.Proofs.Ytbellpalomiokab
open Go.RowKit
set_option linter.unusedVariables false

theorem boxes3 (w : World) (c1 c2 c3 : Array Value) (T1 T2 T3 : TypeId) : (((w.alloc (.cells c1 T1)).alloc (.cells c2 T2)).alloc (.cells c3 T3)).heap[w.heap.size]? = some (.cells c1 T1 (0, 0)) ∧ (((w.alloc (.cells c1 T1)).alloc (.cells c2 T2)).alloc (.cells c3 T3)).heap[w.heap.size + 1]? = some (.cells c2 T2 (0, 0)) ∧ (((w.alloc (.cells c1 T1)).alloc (.cells c2 T2)).alloc (.cells c3 T3)).heap[w.heap.size + 1 + 1]? = some (.cells c3 T3 (0, 0)) ∧ Below w.heap.size w (((w.alloc (.cells c1 T1)).alloc (.cells c2 T2)).alloc (.cells c3 T3)) := by
  have b0 := below_al w (.cells c1 T1)
  have b1 := b0.alloc b0.size (.cells c2 T2)
  have b2 := b1.alloc b1.size (.cells c3 T3)
  have hA := box_old (box_old (boxk_new w c1 T1) (by simp) (.cells c2 T2)) (by simp; omega) (.cells c3 T3)
  have hR := box_old (boxk_new (w.alloc (.cells c1 T1)) c2 T2) (by simp) (.cells c3 T3)
  have hX := boxk_new ((w.alloc (.cells c1 T1)).alloc (.cells c2 T2)) c3 T3
  simp only [World.size_alloc] at hR hX
  exact ⟨hA, hR, hX, b2⟩
theorem boxes2 (w : World) (c1 c2 : Array Value) (T1 T2 : TypeId) : ((w.alloc (.cells c1 T1)).alloc (.cells c2 T2)).heap[w.heap.size]? = some (.cells c1 T1 (0, 0)) ∧ ((w.alloc (.cells c1 T1)).alloc (.cells c2 T2)).heap[w.heap.size + 1]? = some (.cells c2 T2 (0, 0)) ∧ Below w.heap.size w ((w.alloc (.cells c1 T1)).alloc (.cells c2 T2)) := by
  have b0 := below_al w (.cells c1 T1)
  have b1 := b0.alloc b0.size (.cells c2 T2)
  have hA := box_old (boxk_new w c1 T1) (by simp) (.cells c2 T2)
  have hX := boxk_new (w.alloc (.cells c1 T1)) c2 T2
  simp only [World.size_alloc] at hX
  exact ⟨hA, hX, b1⟩
theorem box11_set {w : World} {q : Nat} {c0 c1 c2 c3 c4 c5 c6 c7 c8 c9 c10 : Value} {T : TypeId} (h : w.heap[q]? = some (.cells #[c0, c1, c2, c3, c4, c5, c6, c7, c8, c9, c10] T (0, 0))) (v0 v1 v2 v3 v4 v5 v6 v7 v8 v9 v10 : Value) :
    (((((((((((w.setCell ⟨q, 0, none⟩ v0).setCell ⟨q, 1, none⟩ v1).setCell ⟨q, 2, none⟩ v2).setCell ⟨q, 3, none⟩ v3).setCell ⟨q, 4, none⟩ v4).setCell ⟨q, 5, none⟩ v5).setCell ⟨q, 6, none⟩ v6).setCell ⟨q, 7, none⟩ v7).setCell ⟨q, 8, none⟩ v8).setCell ⟨q, 9, none⟩ v9).setCell ⟨q, 10, none⟩ v10).heap[q]? = some (.cells #[v0, v1, v2, v3, v4, v5, v6, v7, v8, v9, v10] T (0, 0)) ∧ w.grownBy (((((((((((w.setCell ⟨q, 0, none⟩ v0).setCell ⟨q, 1, none⟩ v1).setCell ⟨q, 2, none⟩ v2).setCell ⟨q, 3, none⟩ v3).setCell ⟨q, 4, none⟩ v4).setCell ⟨q, 5, none⟩ v5).setCell ⟨q, 6, none⟩ v6).setCell ⟨q, 7, none⟩ v7).setCell ⟨q, 8, none⟩ v8).setCell ⟨q, 9, none⟩ v9).setCell ⟨q, 10, none⟩ v10) (some q) := by
  have g0 := (boxk_set h 0 v0).2
  have h0 : (w.setCell ⟨q, 0, none⟩ v0).heap[q]? = some (.cells #[v0, c1, c2, c3, c4, c5, c6, c7, c8, c9, c10] T (0, 0)) := (boxk_set h 0 v0).1
  have g1 := (boxk_set h0 1 v1).2
  have h1 : ((w.setCell ⟨q, 0, none⟩ v0).setCell ⟨q, 1, none⟩ v1).heap[q]? = some (.cells #[v0, v1, c2, c3, c4, c5, c6, c7, c8, c9, c10] T (0, 0)) := (boxk_set h0 1 v1).1
  have g2 := (boxk_set h1 2 v2).2
  have h2 : (((w.setCell ⟨q, 0, none⟩ v0).setCell ⟨q, 1, none⟩ v1).setCell ⟨q, 2, none⟩ v2).heap[q]? = some (.cells #[v0, v1, v2, c3, c4, c5, c6, c7, c8, c9, c10] T (0, 0)) := (boxk_set h1 2 v2).1
  have g3 := (boxk_set h2 3 v3).2
  have h3 : ((((w.setCell ⟨q, 0, none⟩ v0).setCell ⟨q, 1, none⟩ v1).setCell ⟨q, 2, none⟩ v2).setCell ⟨q, 3, none⟩ v3).heap[q]? = some (.cells #[v0, v1, v2, v3, c4, c5, c6, c7, c8, c9, c10] T (0, 0)) := (boxk_set h2 3 v3).1
  have g4 := (boxk_set h3 4 v4).2
  have h4 : (((((w.setCell ⟨q, 0, none⟩ v0).setCell ⟨q, 1, none⟩ v1).setCell ⟨q, 2, none⟩ v2).setCell ⟨q, 3, none⟩ v3).setCell ⟨q, 4, none⟩ v4).heap[q]? = some (.cells #[v0, v1, v2, v3, v4, c5, c6, c7, c8, c9, c10] T (0, 0)) := (boxk_set h3 4 v4).1
  have g5 := (boxk_set h4 5 v5).2
  have h5 : ((((((w.setCell ⟨q, 0, none⟩ v0).setCell ⟨q, 1, none⟩ v1).setCell ⟨q, 2, none⟩ v2).setCell ⟨q, 3, none⟩ v3).setCell ⟨q, 4, none⟩ v4).setCell ⟨q, 5, none⟩ v5).heap[q]? = some (.cells #[v0, v1, v2, v3, v4, v5, c6, c7, c8, c9, c10] T (0, 0)) := (boxk_set h4 5 v5).1
  have g6 := (boxk_set h5 6 v6).2
  have h6 : (((((((w.setCell ⟨q, 0, none⟩ v0).setCell ⟨q, 1, none⟩ v1).setCell ⟨q, 2, none⟩ v2).setCell ⟨q, 3, none⟩ v3).setCell ⟨q, 4, none⟩ v4).setCell ⟨q, 5, none⟩ v5).setCell ⟨q, 6, none⟩ v6).heap[q]? = some (.cells #[v0, v1, v2, v3, v4, v5, v6, c7, c8, c9, c10] T (0, 0)) := (boxk_set h5 6 v6).1
  have g7 := (boxk_set h6 7 v7).2
  have h7 : ((((((((w.setCell ⟨q, 0, none⟩ v0).setCell ⟨q, 1, none⟩ v1).setCell ⟨q, 2, none⟩ v2).setCell ⟨q, 3, none⟩ v3).setCell ⟨q, 4, none⟩ v4).setCell ⟨q, 5, none⟩ v5).setCell ⟨q, 6, none⟩ v6).setCell ⟨q, 7, none⟩ v7).heap[q]? = some (.cells #[v0, v1, v2, v3, v4, v5, v6, v7, c8, c9, c10] T (0, 0)) := (boxk_set h6 7 v7).1
  have g8 := (boxk_set h7 8 v8).2
  have h8 : (((((((((w.setCell ⟨q, 0, none⟩ v0).setCell ⟨q, 1, none⟩ v1).setCell ⟨q, 2, none⟩ v2).setCell ⟨q, 3, none⟩ v3).setCell ⟨q, 4, none⟩ v4).setCell ⟨q, 5, none⟩ v5).setCell ⟨q, 6, none⟩ v6).setCell ⟨q, 7, none⟩ v7).setCell ⟨q, 8, none⟩ v8).heap[q]? = some (.cells #[v0, v1, v2, v3, v4, v5, v6, v7, v8, c9, c10] T (0, 0)) := (boxk_set h7 8 v8).1
  have g9 := (boxk_set h8 9 v9).2
  have h9 : ((((((((((w.setCell ⟨q, 0, none⟩ v0).setCell ⟨q, 1, none⟩ v1).setCell ⟨q, 2, none⟩ v2).setCell ⟨q, 3, none⟩ v3).setCell ⟨q, 4, none⟩ v4).setCell ⟨q, 5, none⟩ v5).setCell ⟨q, 6, none⟩ v6).setCell ⟨q, 7, none⟩ v7).setCell ⟨q, 8, none⟩ v8).setCell ⟨q, 9, none⟩ v9).heap[q]? = some (.cells #[v0, v1, v2, v3, v4, v5, v6, v7, v8, v9, c10] T (0, 0)) := (boxk_set h8 9 v9).1
  have g10 := (boxk_set h9 10 v10).2
  have h10 : (((((((((((w.setCell ⟨q, 0, none⟩ v0).setCell ⟨q, 1, none⟩ v1).setCell ⟨q, 2, none⟩ v2).setCell ⟨q, 3, none⟩ v3).setCell ⟨q, 4, none⟩ v4).setCell ⟨q, 5, none⟩ v5).setCell ⟨q, 6, none⟩ v6).setCell ⟨q, 7, none⟩ v7).setCell ⟨q, 8, none⟩ v8).setCell ⟨q, 9, none⟩ v9).setCell ⟨q, 10, none⟩ v10).heap[q]? = some (.cells #[v0, v1, v2, v3, v4, v5, v6, v7, v8, v9, v10] T (0, 0)) := (boxk_set h9 10 v10).1
  exact ⟨h10, (grown_tt (grown_tt (grown_tt (grown_tt (grown_tt (grown_tt (grown_tt (grown_tt (grown_tt (grown_tt g0 g1) g2) g3) g4) g5) g6) g7) g8) g9) g10)⟩
theorem box11_setL {w : World} {q : Nat} {c0 c1 c2 c3 c4 c5 c6 c7 c8 c9 c10 : Value} {T : TypeId} (h : w.heap[q]? = some (.cells #[c0, c1, c2, c3, c4, c5, c6, c7, c8, c9, c10] T (0, 0))) (v1 v2 v3 v4 v5 : Value) :
    (((((w.setCell ⟨q, 1, none⟩ v1).setCell ⟨q, 2, none⟩ v2).setCell ⟨q, 3, none⟩ v3).setCell ⟨q, 4, none⟩ v4).setCell ⟨q, 5, none⟩ v5).heap[q]? = some (.cells #[c0, v1, v2, v3, v4, v5, c6, c7, c8, c9, c10] T (0, 0)) ∧ w.grownBy (((((w.setCell ⟨q, 1, none⟩ v1).setCell ⟨q, 2, none⟩ v2).setCell ⟨q, 3, none⟩ v3).setCell ⟨q, 4, none⟩ v4).setCell ⟨q, 5, none⟩ v5) (some q) := by
  have g1 := (boxk_set h 1 v1).2
  have h1 : (w.setCell ⟨q, 1, none⟩ v1).heap[q]? = some (.cells #[c0, v1, c2, c3, c4, c5, c6, c7, c8, c9, c10] T (0, 0)) := (boxk_set h 1 v1).1
  have g2 := (boxk_set h1 2 v2).2
  have h2 : ((w.setCell ⟨q, 1, none⟩ v1).setCell ⟨q, 2, none⟩ v2).heap[q]? = some (.cells #[c0, v1, v2, c3, c4, c5, c6, c7, c8, c9, c10] T (0, 0)) := (boxk_set h1 2 v2).1
  have g3 := (boxk_set h2 3 v3).2
  have h3 : (((w.setCell ⟨q, 1, none⟩ v1).setCell ⟨q, 2, none⟩ v2).setCell ⟨q, 3, none⟩ v3).heap[q]? = some (.cells #[c0, v1, v2, v3, c4, c5, c6, c7, c8, c9, c10] T (0, 0)) := (boxk_set h2 3 v3).1
  have g4 := (boxk_set h3 4 v4).2
  have h4 : ((((w.setCell ⟨q, 1, none⟩ v1).setCell ⟨q, 2, none⟩ v2).setCell ⟨q, 3, none⟩ v3).setCell ⟨q, 4, none⟩ v4).heap[q]? = some (.cells #[c0, v1, v2, v3, v4, c5, c6, c7, c8, c9, c10] T (0, 0)) := (boxk_set h3 4 v4).1
  have g5 := (boxk_set h4 5 v5).2
  have h5 : (((((w.setCell ⟨q, 1, none⟩ v1).setCell ⟨q, 2, none⟩ v2).setCell ⟨q, 3, none⟩ v3).setCell ⟨q, 4, none⟩ v4).setCell ⟨q, 5, none⟩ v5).heap[q]? = some (.cells #[c0, v1, v2, v3, v4, v5, c6, c7, c8, c9, c10] T (0, 0)) := (boxk_set h4 5 v5).1
  exact ⟨h5, (grown_tt (grown_tt (grown_tt (grown_tt g1 g2) g3) g4) g5)⟩
theorem box11_setR {w : World} {q : Nat} {c0 c1 c2 c3 c4 c5 c6 c7 c8 c9 c10 : Value} {T : TypeId} (h : w.heap[q]? = some (.cells #[c0, c1, c2, c3, c4, c5, c6, c7, c8, c9, c10] T (0, 0))) (v6 v7 v8 v9 v10 : Value) :
    (((((w.setCell ⟨q, 6, none⟩ v6).setCell ⟨q, 7, none⟩ v7).setCell ⟨q, 8, none⟩ v8).setCell ⟨q, 9, none⟩ v9).setCell ⟨q, 10, none⟩ v10).heap[q]? = some (.cells #[c0, c1, c2, c3, c4, c5, v6, v7, v8, v9, v10] T (0, 0)) ∧ w.grownBy (((((w.setCell ⟨q, 6, none⟩ v6).setCell ⟨q, 7, none⟩ v7).setCell ⟨q, 8, none⟩ v8).setCell ⟨q, 9, none⟩ v9).setCell ⟨q, 10, none⟩ v10) (some q) := by
  have g6 := (boxk_set h 6 v6).2
  have h6 : (w.setCell ⟨q, 6, none⟩ v6).heap[q]? = some (.cells #[c0, c1, c2, c3, c4, c5, v6, c7, c8, c9, c10] T (0, 0)) := (boxk_set h 6 v6).1
  have g7 := (boxk_set h6 7 v7).2
  have h7 : ((w.setCell ⟨q, 6, none⟩ v6).setCell ⟨q, 7, none⟩ v7).heap[q]? = some (.cells #[c0, c1, c2, c3, c4, c5, v6, v7, c8, c9, c10] T (0, 0)) := (boxk_set h6 7 v7).1
  have g8 := (boxk_set h7 8 v8).2
  have h8 : (((w.setCell ⟨q, 6, none⟩ v6).setCell ⟨q, 7, none⟩ v7).setCell ⟨q, 8, none⟩ v8).heap[q]? = some (.cells #[c0, c1, c2, c3, c4, c5, v6, v7, v8, c9, c10] T (0, 0)) := (boxk_set h7 8 v8).1
  have g9 := (boxk_set h8 9 v9).2
  have h9 : ((((w.setCell ⟨q, 6, none⟩ v6).setCell ⟨q, 7, none⟩ v7).setCell ⟨q, 8, none⟩ v8).setCell ⟨q, 9, none⟩ v9).heap[q]? = some (.cells #[c0, c1, c2, c3, c4, c5, v6, v7, v8, v9, c10] T (0, 0)) := (boxk_set h8 9 v9).1
  have g10 := (boxk_set h9 10 v10).2
  have h10 : (((((w.setCell ⟨q, 6, none⟩ v6).setCell ⟨q, 7, none⟩ v7).setCell ⟨q, 8, none⟩ v8).setCell ⟨q, 9, none⟩ v9).setCell ⟨q, 10, none⟩ v10).heap[q]? = some (.cells #[c0, c1, c2, c3, c4, c5, v6, v7, v8, v9, v10] T (0, 0)) := (boxk_set h9 10 v10).1
  exact ⟨h10, (grown_tt (grown_tt (grown_tt (grown_tt g6 g7) g8) g9) g10)⟩
theorem box11_post {P : Program} {f : Func} {Q : Ending → World → Prop} {x : Exit} {act : Act} {w : World} {q : Nat} {c0 c1 c2 c3 c4 c5 c6 c7 c8 c9 c10 v0 v1 v2 v3 v4 v5 v6 v7 v8 v9 v10 : Value} {T : TypeId} (h : w.heap[q]? = some (.cells #[c0, c1, c2, c3, c4, c5, c6, c7, c8, c9, c10] T (0, 0)))
    (k : ∀ w2, w2.heap[q]? = some (.cells #[v0, v1, v2, v3, v4, v5, v6, v7, v8, v9, v10] T (0, 0)) → w.grownBy w2 (some q) → bodyPost P f Q x act w2) : bodyPost P f Q x act (((((((((((w.setCell ⟨q, 0, none⟩ v0).setCell ⟨q, 1, none⟩ v1).setCell ⟨q, 2, none⟩ v2).setCell ⟨q, 3, none⟩ v3).setCell ⟨q, 4, none⟩ v4).setCell ⟨q, 5, none⟩ v5).setCell ⟨q, 6, none⟩ v6).setCell ⟨q, 7, none⟩ v7).setCell ⟨q, 8, none⟩ v8).setCell ⟨q, 9, none⟩ v9).setCell ⟨q, 10, none⟩ v10) :=
  k _ (box11_set h v0 v1 v2 v3 v4 v5 v6 v7 v8 v9 v10).1 (box11_set h v0 v1 v2 v3 v4 v5 v6 v7 v8 v9 v10).2
end Go.Proofs.Ytbellpalomiokab
/-
  What the tested Compute answers: compO.
-/
namespace Go.Proofs.Ytbellpalomiokab
open Go.RowKit
set_option linter.unusedVariables false

set_option maxRecDepth 100000 in
set_option maxHeartbeats 3200000 in
theorem implCompute_any (x : X11) (a : Option Addr) (cap : Nat) (B : List B4) (w : World) (hx : x.small) (hr : RdBind w a B) (hs : ∀ y ∈ B, y.small) (hm : B.length ≤ 2097152) :
    Calls Try.prog 22 #[.agg #[.string x.Op, .int .i64 x.L.K, .string x.L.S, .int .i64 x.L.V.K, .int .i64 x.L.V.N, .string x.L.V.S, .int .i64 x.R.K, .string x.R.S, .int .i64 x.R.V.K, .int .i64 x.R.V.N, .string x.R.V.S], .slice a B.length cap] w fun e w' => e = .returned (bindA (compO x B)) ∧ Below w.heap.size w w' := by
  obtain ⟨Op, ⟨LK, LS, LVK, LVN, LVS⟩, ⟨RK, RS, RVK, RVN, RVS⟩⟩ := x
  obtain ⟨s0, ⟨l1, l2⟩, r1, r2⟩ := hx
  simp only at s0 l1 l2 r1 r2
  have HA := hide (argV_small (K := LK) (S := LS) (V := ⟨LVK, LVN, LVS⟩) l2 hs)
  have HB := hide (argV_small (K := RK) (S := RS) (V := ⟨RVK, RVN, RVS⟩) r2 hs)
  obtain ⟨hX, hR, b1⟩ := boxes2 w #[.string Op, .int .i64 LK, .string LS, .int .i64 LVK, .int .i64 LVN, .string LVS, .int .i64 RK, .string RS, .int .i64 RVK, .int .i64 RVN, .string RVS] #[.int .i64 0, .int .i64 0, .string ⟨#[]⟩] 57 45
  have HS := hide hs
  have rr := hr.below b1
  have HC : Hid (compO ⟨Op, ⟨LK, LS, ⟨LVK, LVN, LVS⟩⟩, ⟨RK, RS, ⟨RVK, RVN, RVS⟩⟩⟩ B = compV Op (argV LK LS ⟨LVK, LVN, LVS⟩ B) (argV RK RS ⟨RVK, RVN, RVS⟩ B)) := rfl
  clear hs hr
  by_cases h0 : Op.size = 0
  · obtain rfl := empty_of_size h0
    go_enter Try.func22, Try.ntmps22
    go_wp2_with fail
    refine (implArgVal_any LK LS LVK LVN LVS a cap B _ (by omega) rr HS.out hm).mono ?_
    rintro e w1 ⟨rfl, hb⟩
    have HR := hide (box_step hR hb)
    have hB : Below w.heap.size w w1 := b1.trans (hb.mono b1.size)
    clear hb hX hR b1 rr
    rw [compV0] at HC
    rw [bindA_oz]
    have HO := hide (bindA_oz (argV LK LS ⟨LVK, LVN, LVS⟩ B))
    generalize argV LK LS ⟨LVK, LVN, LVS⟩ B = o at HC HO HA
    generalize (oz o).K = K at HO
    generalize (oz o).N = N at HO
    generalize (oz o).S = S at HO
    generalize o.isSome = bb at HO
    obtain ⟨c0, c1, c2, f0, f1, f2⟩ := box_cell HR.out
    go_wp2
    refine box_post HR.out (fun w4 h4 gr => ?_)
    obtain ⟨d0, d1, d2, -, -, -⟩ := box_cell h4
    exact bodyPost_ret (v := .tuple #[.agg #[.int .i64 K, .int .i64 N, .string S], .bool bb]) (by simp [results, Try.results22, go_sem, d0, d1, d2]) rfl ⟨by rw [HC.out, HO.out], below_set hB gr (by omega)⟩
  · have k0 := isEmpty_false h0
    go_enter Try.func22, Try.ntmps22
    go_wp2_with fail
    refine (implArgVal_any LK LS LVK LVN LVS a cap B _ (by omega) rr HS.out hm).mono ?_
    rintro e w1 ⟨rfl, hb⟩
    have HX1 := hide (box_step hX hb)
    have HR1 := hide (box_step hR hb)
    have hB1 : Below w.heap.size w w1 := b1.trans (hb.mono b1.size)
    have rr1 := rr.below hb
    have z1 : w.heap.size + 1 < w1.heap.size := (Array.getElem?_eq_some_iff.1 HR1.out).1
    have z0 : w.heap.size < w1.heap.size := by omega
    clear hb hX hR b1 rr
    rw [bindA_oz]
    generalize argV LK LS ⟨LVK, LVN, LVS⟩ B = o at HC HA ⊢
    obtain ⟨⟨K, N, S⟩, hv⟩ : ∃ v, v = oz o := ⟨_, rfl⟩
    rw [← hv] at HA ⊢
    have HV := hide hv
    clear hv
    generalize o.isSome = bb
    simp only at HA ⊢
    have y0 := boxk_cell HX1.out 0 _ rfl
    have y1 := boxk_cell HX1.out 6 _ rfl
    have y2 := boxk_cell HX1.out 7 _ rfl
    have y3 := boxk_cell HX1.out 8 _ rfl
    have y4 := boxk_cell HX1.out 9 _ rfl
    have y5 := boxk_cell HX1.out 10 _ rfl
    have BL := below_al w1 (.cells #[.int .i64 K, .int .i64 N, .string S] 45)
    have HX2 := hide (box_step HX1.out BL)
    have HR2 := hide (box_step HR1.out BL)
    have HL2 := hide (box_new w1 (.int .i64 K) (.int .i64 N) (.string S) 45)
    have hB2 := hB1.trans (BL.mono hB1.size)
    have rr2 := rr1.below BL
    clear BL rr1
    go_wp2_with fail
    refine (implArgVal_any RK RS RVK RVN RVS a cap B _ (by omega) rr2 HS.out hm).mono ?_
    rintro e w3 ⟨rfl, hb⟩
    have HX3 := hide (box_step HX2.out hb)
    have HR3 := hide (box_step HR2.out hb)
    have HL3 := hide (box_step HL2.out hb)
    have hB3 : Below w.heap.size w w3 := hB2.trans (hb.mono hB2.size)
    have z3 : w1.heap.size < w3.heap.size := (Array.getElem?_eq_some_iff.1 HL3.out).1
    have z4 : w.heap.size < w3.heap.size := by omega
    have z5 : w.heap.size + 1 < w3.heap.size := by omega
    clear hb HX1 HR1 HX2 HR2 HL2 rr2 y0 y1 y2 y3 y4 y5 hB1 hB2
    rw [bindA_oz]
    generalize argV RK RS ⟨RVK, RVN, RVS⟩ B = p at HC HB ⊢
    obtain ⟨⟨K', N', S'⟩, hu⟩ : ∃ u, u = oz p := ⟨_, rfl⟩
    rw [← hu] at HB ⊢
    have HU := hide hu
    clear hu
    generalize p.isSome = bb'
    simp only at HB ⊢
    have y0 := boxk_cell HX3.out 0 _ rfl
    obtain ⟨t0, t1, t2, -, -, -⟩ := box_cell HL3.out
    obtain ⟨c0, c1, c2, f0, f1, f2⟩ := box_cell HR3.out
    have BL := below_al w3 (.cells #[.int .i64 K', .int .i64 N', .string S'] 45)
    have HR4 := hide (box_step HR3.out BL)
    have hB4 := hB3.trans (BL.mono hB3.size)
    clear BL HX3 HL3
    rcases op_cases Op with rfl | rfl | rfl | ⟨e0, e1, e2, n0, n1, n2⟩
    · exact absurd rfl h0
    · rw [compV1, ← HV.out, ← HU.out] at HC
      clear HV HU k0 h0
      go_wp2_with fail
      refine (implAddVals_any K N S K' N' S' _ (by have := HA.out; unfold maxLen; omega) (by have := HB.out; unfold maxLen; omega)).mono ?_
      rintro e w5 ⟨rfl, hb⟩
      have HR5 := hide (box_step HR4.out hb)
      have hB5 : Below w.heap.size w w5 := hB4.trans (hb.mono hB4.size)
      clear hb HR4 hB4 c0 c1 c2 f0 f1 f2 t0 t1 t2 y0
      rw [show sumV K N S K' N' S' (numN K N S + numN K' N' S') = bindA (addO ⟨K, N, S⟩ ⟨K', N', S'⟩) from sumO_bind ⟨K, N, S⟩ ⟨K', N', S'⟩ _]
      generalize addO ⟨K, N, S⟩ ⟨K', N', S'⟩ = q at HC ⊢
      have HQ := hide (bindA_oz q)
      rw [bindA_oz]
      generalize (oz q).K = K2 at HQ ⊢
      generalize (oz q).N = N2 at HQ ⊢
      generalize (oz q).S = S2 at HQ ⊢
      generalize q.isSome = b2 at HQ ⊢
      obtain ⟨c0, c1, c2, f0, f1, f2⟩ := box_cell HR5.out
      go_wp2
      refine box_post HR5.out (fun w6 h6 gr => ?_)
      obtain ⟨d0, d1, d2, -, -, -⟩ := box_cell h6
      exact bodyPost_ret (v := .tuple #[.agg #[.int .i64 K2, .int .i64 N2, .string S2], .bool b2]) (by simp [results, Try.results22, go_sem, d0, d1, d2]) rfl ⟨by rw [HC.out, HQ.out], below_set hB5 gr (by omega)⟩
    · rw [compV2, ← HV.out, ← HU.out] at HC
      clear HV HU k0 h0
      go_wp2_with fail
      refine (implSubVals_any K N S K' N' S' _ (by have := HA.out; unfold maxLen; omega) (by have := HB.out; unfold maxLen; omega)).mono ?_
      rintro e w5 ⟨rfl, hb⟩
      have HR5 := hide (box_step HR4.out hb)
      have hB5 : Below w.heap.size w w5 := hB4.trans (hb.mono hB4.size)
      clear hb HR4 hB4 c0 c1 c2 f0 f1 f2 t0 t1 t2 y0
      rw [show sumV K N S K' N' S' (numN K N S - numN K' N' S') = bindA (subO ⟨K, N, S⟩ ⟨K', N', S'⟩) from sumO_bind ⟨K, N, S⟩ ⟨K', N', S'⟩ _]
      generalize subO ⟨K, N, S⟩ ⟨K', N', S'⟩ = q at HC ⊢
      have HQ := hide (bindA_oz q)
      rw [bindA_oz]
      generalize (oz q).K = K2 at HQ ⊢
      generalize (oz q).N = N2 at HQ ⊢
      generalize (oz q).S = S2 at HQ ⊢
      generalize q.isSome = b2 at HQ ⊢
      obtain ⟨c0, c1, c2, f0, f1, f2⟩ := box_cell HR5.out
      go_wp2
      refine box_post HR5.out (fun w6 h6 gr => ?_)
      obtain ⟨d0, d1, d2, -, -, -⟩ := box_cell h6
      exact bodyPost_ret (v := .tuple #[.agg #[.int .i64 K2, .int .i64 N2, .string S2], .bool b2]) (by simp [results, Try.results22, go_sem, d0, d1, d2]) rfl ⟨by rw [HC.out, HQ.out], below_set hB5 gr (by omega)⟩
    · rw [compV_no _ _ n0 n1 n2] at HC
      clear n0 n1 n2 e0 HV HU h0
      go_wp2
      refine box_post_al HR3.out (fun w6 h6 gr => ?_)
      obtain ⟨d0, d1, d2, -, -, -⟩ := box_cell h6
      exact bodyPost_ret (v := .tuple #[.agg #[.int .i64 0, .int .i64 0, .string ⟨#[]⟩], .bool false]) (by simp [results, Try.results22, go_sem, d0, d1, d2]) rfl ⟨by rw [HC.out]; rfl, below_set hB3 gr (by omega)⟩
end Go.Proofs.Ytbellpalomiokab
/-
  What the tested ComputeAll answers: allR.
-/
namespace Go.Proofs.Ytbellpalomiokab
open Go.RowKit
set_option linter.unusedVariables false

set_option maxRecDepth 100000 in
set_option maxHeartbeats 3200000 in
theorem implComputeAll_any (a : Option Addr) (cap : Nat) (es : List X11) (a2 : Option Addr) (cap2 : Nat) (B : List B4) (w : World) (hr : RdExpr w a es) (hs : ∀ x ∈ es, x.small) (hb : RdBind w a2 B) (hs2 : ∀ y ∈ B, y.small) (hn : es.length ≤ 1048576) (hm : B.length ≤ 2097152) :
    Calls Try.prog 21 #[.slice a es.length cap, .slice a2 B.length cap2] w fun e w' => GivesA e w' w (allR es B) := by
  obtain ⟨i0, hi, hz0, hz1, hz2⟩ := info_parts Try.info45
  obtain ⟨n, hN⟩ : ∃ n, n = es.length := ⟨_, rfl⟩
  have HYes := hide (fun L => @allR_yes B es L)
  have HNo := hide (fun k => @allR_no B es k)
  generalize allR es B = r at HYes HNo ⊢
  rw [← hN] at hn ⊢
  have HN := hide hN
  have HS := hide hs
  have HS2 := hide hs2
  clear hN hs hs2
  have hz3 : (i0.bytes * n) = 32 * n := by rw [hz2]
  go_enter Try.func21, Try.ntmps21
  go_wp2_with (at_make; refine wpList_make_own _ rfl _ _ 23 rfl w.heap.size 45 i0 (.agg #[.int .i64 0, .int .i64 0, .string ⟨#[]⟩]) 3 Try.underlying23 hi hz0 hz1 _ _ _ n rfl rfl (by omega) ?b2 ?b3 (Nat.le_refl _) ?_)
  case b2 => rw [hz2]; omega
  case b3 => unfold maxLen; omega
  intro w2 ho2 hg2
  have b2 : Below w.heap.size w w2 := (Below.refl _ _).grown hg2 (Nat.le_refl _) (fun k hk => by cases hk)
  clear hg2
  go_wp2
  go_loopw [6, 16] (fun v i wr => ∃ (L : List V3), L.length ≤ n ∧ i = .int .i64 (L.length : Int) ∧ wr.ownsRow w.heap.size 45 3 v L.length (cells3 L) ∧ (∀ j, j < L.length → compO (eAt es j) B = some (vAt L j)) ∧ Below w.heap.size w wr) (fun _ i _ => n - (intOf i).toNat)
  case atStart => exact ⟨[], Nat.zero_le _, rfl, ho2, fun j hj => absurd hj (Nat.not_lt_zero _), b2⟩
  case round =>
    clear ho2 b2
    obtain ⟨L, hk, rfl, hown, hall, hbel⟩ := hrel
    obtain ⟨g, c, e0, -, -, -, -⟩ := rdV_owns hown
    obtain ⟨k, hkL⟩ : ∃ k, k = L.length := ⟨_, rfl⟩
    have HA := hide hall
    clear hall
    rw [← hkL] at hk hown e0 ⊢
    subst e0
    have HK := hide hkL
    clear hkL
    by_cases hlt : k < n
    · obtain ⟨b, off, hab, hbw, hc⟩ := RdExpr.cells hr (by rw [← HN.out]; omega)
      obtain ⟨c0, c1, c2, c3, c4, c5, c6, c7, c8, c9, c10⟩ := hc k (by rw [← HN.out]; exact hlt)
      clear hc
      subst hab
      rw [← hbel.cell (p := ⟨b, off + k * 11, none⟩) hbw] at c0
      rw [← hbel.cell (p := ⟨b, off + k * 11 + 1, none⟩) hbw] at c1
      rw [← hbel.cell (p := ⟨b, off + k * 11 + 2, none⟩) hbw] at c2
      rw [← hbel.cell (p := ⟨b, off + k * 11 + 3, none⟩) hbw] at c3
      rw [← hbel.cell (p := ⟨b, off + k * 11 + 4, none⟩) hbw] at c4
      rw [← hbel.cell (p := ⟨b, off + k * 11 + 5, none⟩) hbw] at c5
      rw [← hbel.cell (p := ⟨b, off + k * 11 + 6, none⟩) hbw] at c6
      rw [← hbel.cell (p := ⟨b, off + k * 11 + 7, none⟩) hbw] at c7
      rw [← hbel.cell (p := ⟨b, off + k * 11 + 8, none⟩) hbw] at c8
      rw [← hbel.cell (p := ⟨b, off + k * 11 + 9, none⟩) hbw] at c9
      rw [← hbel.cell (p := ⟨b, off + k * 11 + 10, none⟩) hbw] at c10
      have hS : (eAt es k).small := by rw [eAt_in (by rw [← HN.out]; exact hlt)]; exact HS.out _ (List.getElem_mem _)
      have hbA := hbel.alloc hbel.size (.cells #[.string (eAt es k).Op, .int .i64 (eAt es k).L.K, .string (eAt es k).L.S, .int .i64 (eAt es k).L.V.K, .int .i64 (eAt es k).L.V.N, .string (eAt es k).L.V.S, .int .i64 (eAt es k).R.K, .string (eAt es k).R.S, .int .i64 (eAt es k).R.V.K, .int .i64 (eAt es k).R.V.N, .string (eAt es k).R.V.S] 57)
      have howA := hown.alloc (.cells #[.string (eAt es k).Op, .int .i64 (eAt es k).L.K, .string (eAt es k).L.S, .int .i64 (eAt es k).L.V.K, .int .i64 (eAt es k).L.V.N, .string (eAt es k).L.V.S, .int .i64 (eAt es k).R.K, .string (eAt es k).R.S, .int .i64 (eAt es k).R.V.K, .int .i64 (eAt es k).R.V.N, .string (eAt es k).R.V.S] 57)
      go_wp2_with fail
      refine (implCompute_any (eAt es k) _ _ B _ hS (hb.below hbA) HS2.out hm).mono ?_
      rintro e w3 ⟨rfl, hb3⟩
      have hbel3 : Below w.heap.size w w3 := hbA.trans (hb3.mono hbA.size)
      have hown3 := ownsRow_below howA hb3
      clear hb3 hbel hbA hown howA c0 c1 c2 c3 c4 c5 c6 c7 c8 c9 c10
      rw [bindA_oz]
      have HI := hide (show (compO (eAt es k) B = none ∧ (compO (eAt es k) B).isSome = false) ∨ (compO (eAt es k) B = some (oz (compO (eAt es k) B)) ∧ (compO (eAt es k) B).isSome = true) by cases compO (eAt es k) B <;> simp [oz])
      obtain ⟨q, hq⟩ : ∃ q, q = compO (eAt es k) B := ⟨_, rfl⟩
      rw [← hq] at HI ⊢
      have HQ := hide hq
      clear hq
      obtain ⟨⟨K, N, S⟩, hv⟩ : ∃ v, v = oz q := ⟨_, rfl⟩
      rw [← hv] at HI ⊢
      generalize q.isSome = bb at HI ⊢
      clear hv
      simp only
      rcases HI.out with ⟨hq, rfl⟩ | ⟨hq, rfl⟩
      · have HR : Hid (r = ([], false)) := HNo.out k (by rw [← HN.out]; exact hlt) (by rw [← HQ.out, hq])
        clear HI hq
        have HG : Hid (∀ W v, W.ownsRow w.heap.size 45 3 v 0 (cells3 []) → Below w.heap.size w W → GivesA (.returned (.tuple #[v, .bool false])) W w r) := by unfold Hid; rw [HR.out]; exact fun W v h1 h2 => ⟨v, rfl, h1, h2⟩
        go_wp2
        go_ret2
        exact HG.out _ _ (World.ownsRow_nil _ _ _ _) (hbel3.alloc hbel3.size _)
      · have HC : Hid (compO (eAt es k) B = some ⟨K, N, S⟩) := by unfold Hid; rw [← HQ.out, hq]
        clear HI hq
        have hown4 := (hown3.alloc (.cells #[.int .i64 K, .int .i64 N, .string S] 45)).alloc (.cells #[.int .i64 K, .int .i64 N, .string S] 45)
        have HO4 := hide hown4
        have hsrc := news_src (w3.alloc (.cells #[.int .i64 K, .int .i64 N, .string S] 45)) ⟨K, N, S⟩
        have HSrc := hide hsrc
        have HB4 := hide ((hbel3.alloc hbel3.size (.cells #[.int .i64 K, .int .i64 N, .string S] 45)).alloc (by have := hbel3.size; simp; omega) (.cells #[.int .i64 K, .int .i64 N, .string S] 45))
        clear hown3 hown4 hsrc hbel3
        go_wp2_with (at_builtin; refine wpList_append_lies _ rfl (.tmp 28) (.tmp 30) 23 rfl w.heap.size 45 i0 (.agg #[.int .i64 0, .int .i64 0, .string ⟨#[]⟩]) 3 32 Try.underlying23 hi hz0 hz1 hz2 rfl (by omega) (.slice g k c) k (cells3 L) rfl HO4.out ⟨(w3.alloc (.cells #[.int .i64 K, .int .i64 N, .string S] 45)).heap.size, 0, none⟩ 1 1 [.int .i64 K, .int .i64 N, .string S] ?hx rfl HSrc.out (news_one ⟨K, N, S⟩) (by omega) (by unfold maxLen; omega) (by omega) HB4.out.size _ rfl ?_)
        intro g5 c5 w5 ho5 hg5 hat5 hlt5
        have HO5 : Hid (w5.ownsRow w.heap.size 45 3 (.slice (some ⟨g5, 0, none⟩) (k + 1) c5) (L ++ [(⟨K, N, S⟩ : V3)]).length (cells3 (L ++ [⟨K, N, S⟩]))) := by
          unfold Hid
          rw [← app3, List.length_append, ← HK.out]
          exact ho5
        have HB5 := hide (HB4.out.grown hg5 HB4.out.size (fun k hk => (HO4.out.lt k hk).1))
        have HA5 : Hid (∀ j, j < (L ++ [(⟨K, N, S⟩ : V3)]).length → compO (eAt es j) B = some (vAt (L ++ [⟨K, N, S⟩]) j)) := fun j hj => by
          rw [List.length_append] at hj
          by_cases hjl : j < L.length
          · rw [vAt_snoc_lt hjl]; exact HA.out j hjl
          · have hjk : j = L.length := by simp at hj; omega
            rw [hjk, vAt_snoc_eq, ← HK.out]; exact HC.out
        have HL5 : Hid ((L ++ [(⟨K, N, S⟩ : V3)]).length = k + 1) := by unfold Hid; rw [List.length_append, ← HK.out]; rfl
        clear ho5 hg5 hat5 hlt5 HO4 HSrc HB4
        go_wp2
        go_roundw
        case rel => exact ⟨L ++ [⟨K, N, S⟩], by rw [HL5.out]; omega, by rw [HL5.out]; go_num, HO5.out, HA5.out, HB5.out⟩
        case measure => simp [intOf]; omega
    · have hkn : k = n := by omega
      have HR : Hid (r = (L, true)) := HYes.out L (by rw [← HK.out, ← HN.out]; exact hkn) (fun j hj => HA.out j (by rw [← HN.out] at hj; rw [← HK.out]; omega))
      have HG : Hid (∀ W v, W.ownsRow w.heap.size 45 3 v L.length (cells3 L) → Below w.heap.size w W → GivesA (.returned (.tuple #[v, .bool true])) W w r) := by unfold Hid; rw [HR.out]; exact fun W v h1 h2 => ⟨v, rfl, h1, h2⟩
      have HO : Hid (wr.ownsRow w.heap.size 45 3 (.slice g k c) L.length (cells3 L)) := by unfold Hid; rw [← HK.out]; exact hown
      clear hown
      go_wp2
      go_ret2
      exact HG.out _ _ HO.out hbel
end Go.Proofs.Ytbellpalomiokab
