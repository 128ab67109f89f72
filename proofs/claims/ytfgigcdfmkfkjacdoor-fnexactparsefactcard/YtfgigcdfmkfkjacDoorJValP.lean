/-
  Numbers as texts, plainly: what is written comes back, and nothing else is read.
-/
import Derived.Lib.ItoaLen
import Derived.Lib.AtoiTie
namespace Go.Proofs.YtfgigcdfmkfkjacDoor
open Go.Lib
set_option linter.unusedVariables false

theorem decFrom_snoc (c : UInt8) : ∀ (l : List UInt8) (acc : Nat), decFrom acc (l ++ [c]) = match decFrom acc l with
    | some m => (match digitVal c with | some d => some (m * 10 + d) | none => none)
    | none => none
  | [], acc => by
    simp only [List.nil_append, decFrom]
    cases digitVal c <;> rfl
  | b :: r, acc => by
    simp only [List.cons_append, decFrom]
    cases digitVal b with
    | none => rfl
    | some d => exact decFrom_snoc c r _

theorem digitVal_dec (d : Nat) (h : d < 10) : digitVal (UInt8.ofNat (48 + d)) = some d := by
  have e : (UInt8.ofNat (48 + d)).toNat = 48 + d := by simp; omega
  unfold digitVal
  rw [e, if_pos (by omega)]
  simp

theorem decFrom_dec (u : Nat) : decFrom 0 (decDigits u) = some u := by
  induction u using Nat.strongRecOn with
  | _ u ih =>
    by_cases h : u < 10
    · rw [decDigits_one h]
      simp only [decFrom, digitVal_dec u h]; simp
    · rw [decDigits, dif_neg h, decFrom_snoc, ih (u / 10) (by omega), digitVal_dec _ (by omega)]
      simp; omega

theorem decDigits_ne (u : Nat) : decDigits u ≠ [] := by
  intro h
  have := decDigits_length u
  rw [h] at this
  have := nDigits_pos u
  simp at *; omega

theorem dec_head (u : Nat) : ∃ d r, decDigits u = UInt8.ofNat (48 + d) :: r ∧ d < 10 ∧ (0 < u → 0 < d) ∧ (u < 10 → r = []) := by
  induction u using Nat.strongRecOn with
  | _ u ih =>
    by_cases h : u < 10
    · exact ⟨u, [], decDigits_one h, h, fun h => h, fun _ => rfl⟩
    · obtain ⟨d, r, e, hd, hp, _⟩ := ih (u / 10) (by omega)
      refine ⟨d, r ++ [UInt8.ofNat (48 + u % 10)], ?_, hd, fun _ => hp (by omega), fun h2 => absurd h2 h⟩
      rw [decDigits, dif_neg h, e]; rfl

theorem ofNat_inj48 {d : Nat} (h : d < 10) (k : Nat) (hk : k < 256) : UInt8.ofNat (48 + d) = UInt8.ofNat k ↔ 48 + d = k := by
  constructor
  · intro e
    have := congrArg UInt8.toNat e
    simp at this; omega
  · intro e; rw [e]

theorem nDigits_10 (u : Nat) (h : u ≤ 1000000000) : nDigits u ≤ 10 := by
  rcases Nat.lt_or_ge (nDigits u) 11 with h1 | h1
  · omega
  · exfalso
    -- ten digits at most
    have : ∀ u, u < 10 ^ 10 → nDigits u ≤ 10 := by
      intro u hu
      have step : ∀ (k u : Nat), u < 10 ^ (k + 1) → nDigits u ≤ k + 1 := by
        intro k
        induction k with
        | zero => intro u hu; rw [nDigits_small (by simpa using hu)]; omega
        | succ k ih =>
          intro u hu
          by_cases hs : u < 10
          · rw [nDigits_small hs]; omega
          · rw [nDigits_big hs]
            have := ih (u / 10) (by rw [Nat.pow_succ] at hu; exact Nat.div_lt_of_lt_mul (by omega))
            omega
      exact step 9 u hu
    have := this u (by omega)
    omega

/-- the number of a text of at most ten digits, with no needless nought; -1: it is none -/
def wholeL (l : List UInt8) : Int :=
  if l.length < 1 ∨ 10 < l.length ∨ (1 < l.length ∧ l.head? = some 48) then -1
  else match decFrom 0 l with
    | some n => (n : Int)
    | none => -1

theorem whole_dec (u : Nat) (h : u ≤ 1000000000) : wholeL (decDigits u) = (u : Int) := by
  have hl := decDigits_length u
  have h1 := nDigits_pos u
  have h2 := nDigits_10 u h
  unfold wholeL
  rw [if_neg, decFrom_dec]
  rintro (h3 | h3 | ⟨h3, h4⟩)
  · omega
  · omega
  · obtain ⟨d, r, e, hd, hp, hr⟩ := dec_head u
    rw [e] at h4 h3
    simp only [List.head?_cons, Option.some.injEq] at h4
    have := (ofNat_inj48 hd 48 (by omega)).1 h4
    by_cases h0 : 0 < u
    · have := hp h0; omega
    · have := hr (by omega); rw [this] at h3; simp at h3

theorem digitVal_some {c : UInt8} {d : Nat} (h : digitVal c = some d) : c = UInt8.ofNat (48 + d) ∧ d < 10 := by
  obtain ⟨h1, h2, h3⟩ := digitVal_eq h
  refine ⟨?_, by omega⟩
  apply UInt8.toNat_inj.1
  rw [h3]
  simp; omega

/-- digits without a needless nought are their number's -/
theorem dec_of : ∀ (n : Nat) (l : List UInt8) (u : Nat), l.length = n + 1 → (1 < l.length → l.head? ≠ some 48) → decFrom 0 l = some u → l = decDigits u ∧ (l.head? ≠ some 48 → 0 < u)
  | 0, l, u, hl, hh, hd => by
    match l, hl with
    | [c], _ =>
      simp only [decFrom] at hd
      cases hc : digitVal c with
      | none => rw [hc] at hd; cases hd
      | some d =>
        rw [hc] at hd
        simp at hd
        obtain ⟨e, h10⟩ := digitVal_some hc
        subst hd
        refine ⟨by rw [decDigits_one h10, e], fun h => ?_⟩
        rcases Nat.eq_zero_or_pos d with h0 | h0
        · exfalso; apply h; rw [e, h0]; rfl
        · exact h0
  | n + 1, l, u, hl, hh, hd => by
    have hne : l ≠ [] := by intro e; rw [e] at hl; simp at hl
    obtain ⟨l', c, rfl⟩ : ∃ l' c, l = l' ++ [c] := ⟨l.dropLast, l.getLast hne, (List.dropLast_concat_getLast hne).symm⟩
    have hl' : l'.length = n + 1 := by simp at hl; exact hl
    have hhd : (l' ++ [c]).head? = l'.head? := by
      cases l' with
      | nil => simp at hl'
      | cons a r => rfl
    have hh' : l'.head? ≠ some 48 := by rw [← hhd]; exact hh (by simp; omega)
    rw [decFrom_snoc] at hd
    cases h1 : decFrom 0 l' with
    | none => rw [h1] at hd; cases hd
    | some m =>
      rw [h1] at hd
      simp only at hd
      cases hc : digitVal c with
      | none => rw [hc] at hd; cases hd
      | some d =>
        rw [hc] at hd
        simp at hd
        obtain ⟨e, h10⟩ := digitVal_some hc
        obtain ⟨e2, hp⟩ := dec_of n l' m hl' (fun _ => hh') h1
        have hm := hp hh'
        subst hd
        refine ⟨?_, fun _ => by omega⟩
        rw [decDigits, dif_neg (by omega), show (m * 10 + d) / 10 = m by omega, show (m * 10 + d) % 10 = d by omega, ← e2, e]

theorem whole_of {l : List UInt8} {u : Int} (h : wholeL l = u) (h0 : 0 ≤ u) : l = decDigits u.toNat := by
  unfold wholeL at h
  split at h
  · omega
  · rename_i hc
    split at h
    · rename_i n hn
      subst h
      have := (dec_of (l.length - 1) l n (by omega) (fun h1 h2 => hc (.inr (.inr ⟨h1, h2⟩))) hn).1
      simpa using this
    · omega

def numOk (n : Int) : Bool := decide (-1000000000 ≤ n) && decide (n ≤ 1000000000)
theorem numOk_iff {n : Int} : numOk n = true ↔ -1000000000 ≤ n ∧ n ≤ 1000000000 := by simp [numOk]

/-- a text's number, as the model reads it -/
def numV (l : List UInt8) : Option Int :=
  if 1 < l.length ∧ l.head? = some 45 then
    if 0 ≤ - wholeL l.tail then none else if numOk (- wholeL l.tail) then some (- wholeL l.tail) else none
  else if wholeL l < 0 then none else if numOk (wholeL l) then some (wholeL l) else none

theorem itoa_neg {n : Int} (h : n < 0) : itoa n = 45 :: decDigits n.natAbs := by unfold itoa; rw [if_pos h]
theorem itoa_pos {n : Int} (h : ¬ n < 0) : itoa n = decDigits n.toNat := by unfold itoa; rw [if_neg h]

theorem numV_itoa {n : Int} (h : numOk n = true) : numV (itoa n) = some n := by
  rw [numOk_iff] at h
  by_cases hn : n < 0
  · rw [itoa_neg hn]
    have hp := List.length_pos_iff.2 (decDigits_ne n.natAbs)
    have hw := whole_dec n.natAbs (by omega)
    unfold numV
    rw [if_pos (by simp; omega)]
    have e : wholeL (45 :: decDigits n.natAbs).tail = (n.natAbs : Int) := hw
    rw [if_neg (by rw [e]; omega), e, if_pos (by rw [numOk_iff]; omega)]
    congr 1; omega
  · rw [itoa_pos hn]
    have hw := whole_dec n.toNat (by omega)
    unfold numV
    rw [if_neg, hw, if_neg (by omega), if_pos (by rw [numOk_iff]; omega)]
    · congr 1; omega
    · rintro ⟨_, h2⟩
      obtain ⟨d, r, e, hd, _, _⟩ := dec_head n.toNat
      rw [e] at h2
      simp only [List.head?_cons, Option.some.injEq] at h2
      have := (ofNat_inj48 hd 45 (by omega)).1 h2
      omega

theorem numV_some {l : List UInt8} {n : Int} (h : numV l = some n) : numOk n = true ∧ l = itoa n := by
  unfold numV at h
  split at h
  · rename_i hc
    split at h
    · cases h
    · rename_i h0
      split at h
      · rename_i hk
        simp only [Option.some.injEq] at h
        subst h
        refine ⟨hk, ?_⟩
        rw [itoa_neg (by omega)]
        have e := whole_of (l := l.tail) rfl (by omega)
        match l, hc with
        | b :: r, ⟨_, h2⟩ =>
          simp only [List.head?_cons, Option.some.injEq] at h2
          simp only [List.tail_cons] at e h0 ⊢
          rw [h2]
          congr 1
          rw [show (-wholeL r).natAbs = (wholeL r).toNat by omega]
          exact e
      · cases h
  · split at h
    · cases h
    · split at h
      · rename_i hk
        simp only [Option.some.injEq] at h
        subst h
        refine ⟨hk, ?_⟩
        rw [itoa_pos (by omega)]
        exact whole_of rfl (by omega)
      · cases h

theorem atoi_itoa {n : Int} (h : numOk n = true) : atoiAll (itoa n) = .ok n := by
  rw [numOk_iff] at h
  have hd := decFrom_dec n.natAbs
  have hl := decDigits_length n.natAbs
  have hl2 := nDigits_10 n.natAbs (by omega)
  have hne : (decDigits n.natAbs).isEmpty = false := by
    have := decDigits_ne n.natAbs
    cases hx : decDigits n.natAbs with
    | nil => exact absurd hx this
    | cons a r => rfl
  by_cases hn : n < 0
  · rw [itoa_neg hn, atoiAll_short _ (by simp; omega)]
    have : atoi (45 :: decDigits n.natAbs) = some n := by
      show (decNat (decDigits n.natAbs)).map (fun (m : Nat) => -(m : Int)) = _
      unfold decNat
      rw [hne]
      simp only [Bool.false_eq_true, if_false]
      rw [hd]
      simp; omega
    rw [this]; rfl
  · rw [itoa_pos hn, show n.toNat = n.natAbs by omega, atoiAll_short _ (by omega)]
    have : atoi (decDigits n.natAbs) = some n := by
      obtain ⟨d, r, e, hdd, _, _⟩ := dec_head n.natAbs
      rw [e] at hd ⊢
      have h1 : (UInt8.ofNat (48 + d) == 45) = false := by
        rw [beq_eq_false_iff_ne]; intro e2
        have := (ofNat_inj48 hdd 45 (by omega)).1 e2
        omega
      have h2 : (UInt8.ofNat (48 + d) == 43) = false := by
        rw [beq_eq_false_iff_ne]; intro e2
        have := (ofNat_inj48 hdd 43 (by omega)).1 e2
        omega
      unfold atoi
      simp only [h1, h2, Bool.false_eq_true, if_false]
      unfold decNat
      rw [show (UInt8.ofNat (48 + d) :: r).isEmpty = false from rfl]
      simp only [Bool.false_eq_true, if_false]
      rw [hd]
      simp; omega
    rw [this]; rfl

/-- a text whose first byte is neither a digit nor a sign has no number -/
theorem numV_head {c : UInt8} {r : List UInt8} (h1 : c.toNat = 39) : numV (c :: r) = none := by
  cases h : numV (c :: r) with
  | none => rfl
  | some n =>
    obtain ⟨hk, e⟩ := numV_some h
    exfalso
    by_cases hn : n < 0
    · rw [itoa_neg hn] at e
      simp only [List.cons.injEq] at e
      rw [e.1] at h1; exact absurd h1 (by decide)
    · rw [itoa_pos hn] at e
      obtain ⟨d, r', e', hd, _, _⟩ := dec_head n.toNat
      rw [e'] at e
      simp only [List.cons.injEq] at e
      rw [e.1] at h1
      simp at h1; omega
end Go.Proofs.YtfgigcdfmkfkjacDoor
