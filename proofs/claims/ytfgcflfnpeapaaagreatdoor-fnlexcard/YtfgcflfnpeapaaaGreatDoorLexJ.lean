/-
  Tokens that are joined come back, plainly; all that Lex tells is right.
-/
import Derived.Test.YtfgcflfnpeapaaaGreatDoorLexR
namespace Go.Proofs.YtfgcflfnpeapaaaGreatDoor
open Go.RowKit
set_option linter.unusedVariables false

/-- tokens joined, from the front -/
def joinS : List V3 → List UInt8
  | [] => []
  | [v] => v.tok
  | v :: u :: r => v.tok ++ 32 :: joinS (u :: r)
theorem joinS_snoc : ∀ (A : List V3) (v : V3), joinS (A ++ [v]) = if A = [] then v.tok else joinS A ++ [32] ++ v.tok
  | [], v => rfl
  | [u], v => by simp [joinS]
  | u :: x :: r, v => by
    have ih := joinS_snoc (x :: r) v
    rw [if_neg (by simp)] at ih ⊢
    have e : joinS (u :: x :: r ++ [v]) = u.tok ++ 32 :: joinS (x :: r ++ [v]) := rfl
    rw [e, ih]
    simp [joinS]
theorem joinT_S (L : List V3) : ∀ k, k ≤ L.length → joinT L k = joinS (L.take k)
  | 0, _ => rfl
  | k + 1, h => by
    have ih := joinT_S L k (by omega)
    have e : L.take (k + 1) = L.take k ++ [vAt L k] := by
      rw [List.take_succ_eq_append_getElem (by omega), vAt_in (by omega)]
    by_cases h0 : 0 < k
    · have hne : L.take k ≠ [] := by
        intro e2
        have := congrArg List.length e2
        rw [List.length_take, List.length_nil] at this
        omega
      rw [e, joinS_snoc, if_neg hne, ← ih, joinT_next L h0]
    · have : k = 0 := by omega
      subst this
      rw [e, joinS_snoc, joinT_first L]
      simp
theorem joinS_head {v : V3} {r : List V3} : ∃ R, joinS (v :: r) = v.tok ++ R ∧ Sep R ∧ (r = [] → R = []) ∧ (r ≠ [] → R = 32 :: joinS r) := by
  cases r with
  | nil => exact ⟨[], by simp [joinS], .inl rfl, fun _ => rfl, fun h => absurd rfl h⟩
  | cons u q => exact ⟨32 :: joinS (u :: q), rfl, .inr ⟨_, rfl⟩, (fun h => by cases h), fun _ => rfl⟩

theorem lex_from {s : ByteArray} : ∀ (r acc : List V3) (p : Nat), (∀ v ∈ r, tokB v.K v.N v.S = true) → acc.length + r.length ≤ 3000 → p ≤ s.size → s.data.toList.drop p = joinS r → lexF s (3001 - acc.length) acc p = (acc ++ r, -1)
  | [], acc, p, _, hl, hp, hd => by
    have hs := drop_size hd hp
    rw [lexF_end (by simpa using hl) (by simp [joinS] at hs; omega), List.append_nil]
  | v :: r, acc, p, hv, hl, hp, hd => by
    obtain ⟨R, hR, hsep, hR0, hR1⟩ := joinS_head (v := v) (r := r)
    rw [hR] at hd
    have hb := hv v (by simp)
    obtain ⟨h1, -, hne⟩ := one_tok hb hd hsep
    have hlt := drop_lt hd hne
    simp only [List.length_cons] at hl
    have hd2 := drop_more hd
    have hle : p + v.tok.length ≤ s.size := by
      have := drop_len s p
      rw [hd] at this
      simp only [List.length_append] at this
      omega
    rw [lexF_step (by omega) hlt (by rw [h1]; exact hb) (by omega), h1]
    simp only
    have hpass : ∃ p', passN s false (p + v.tok.length) = p' ∧ p' ≤ s.size ∧ s.data.toList.drop p' = joinS r := by
      by_cases hr : r = []
      · have := hR0 hr
        rw [this] at hd2
        have hsz := drop_size hd2 hle
        refine ⟨s.size, passN_end (by simp at hsz; omega), Nat.le_refl _, ?_⟩
        rw [hr, drop_end (Nat.le_refl _)]; rfl
      · rw [hR1 hr] at hd2
        have hb32 := bat_head hd2
        have hlt2 : p + v.tok.length < s.size := drop_lt (t := [32]) (r := joinS r) (by rw [hd2]; rfl) (by simp)
        have hd3 : s.data.toList.drop (p + v.tok.length + 1) = joinS r := by
          rw [← List.drop_drop, hd2]; rfl
        obtain ⟨u, q, rfl⟩ := List.exists_cons_of_ne_nil hr
        obtain ⟨R2, hR2, hsep2, -, -⟩ := joinS_head (v := u) (r := q)
        have hd4 := hd3
        rw [hR2] at hd4
        obtain ⟨-, hst, hne2⟩ := one_tok (hv u (by simp)) hd4 hsep2
        have hlt3 := drop_lt hd4 hne2
        refine ⟨p + v.tok.length + 1, ?_, by omega, hd3⟩
        rw [passN_blank hlt2 (.inl (by rw [hb32]; rfl)), passN_stop hlt3 hst.1 hst.2]
    obtain ⟨p', e1, e2, e3⟩ := hpass
    rw [e1, lex_from r (acc ++ [v]) p' (fun x hx => hv x (by simp [hx])) (by simp; omega) e2 e3]
    simp
theorem lex_join (L : List V3) (hL : ∀ v ∈ L, tokB v.K v.N v.S = true) (hn : L.length ≤ 3000) : lexP ⟨(joinT L L.length).toArray⟩ = (L, -1) := by
  have hj : joinT L L.length = joinS L := by rw [joinT_S L _ (Nat.le_refl _), List.take_length]
  obtain ⟨s, hs⟩ : ∃ s : ByteArray, s = ⟨(joinT L L.length).toArray⟩ := ⟨_, rfl⟩
  have hd : s.data.toList = joinS L := by rw [hs, ← hj]
  rw [← hs]
  have hpass : passN s false 0 = 0 := by
    cases L with
    | nil =>
      have h0 : s.size = 0 := by rw [← str_len, hd]; rfl
      rw [passN_end (by omega), h0]
    | cons v r =>
      obtain ⟨R, hR, hsep, -, -⟩ := joinS_head (v := v) (r := r)
      rw [hR] at hd
      have hd0 : s.data.toList.drop 0 = v.tok ++ R := by simpa using hd
      obtain ⟨-, hst, hne⟩ := one_tok (hL v (by simp)) hd0 hsep
      exact passN_stop (drop_lt hd0 hne) hst.1 hst.2
  unfold lexP
  rw [hpass]
  have := lex_from L [] 0 hL (by simpa using hn) (Nat.zero_le _) (by simpa using hd)
  simpa using this
/-- what Lex tells is right: at most 3000 tokens, each right; and no place behind the end -/
theorem lexF_ok {s : ByteArray} : ∀ (f : Nat) (L : List V3) (k : Nat), (∀ v ∈ L, tokB v.K v.N v.S = true) → L.length ≤ 3000 → k ≤ s.size → (∀ v ∈ (lexF s f L k).1, tokB v.K v.N v.S = true) ∧ (lexF s f L k).1.length ≤ 3000 ∧ ((lexF s f L k).2 = -1 ∨ ((lexF s f L k).1 = [] ∧ (lexF s f L k).2 ≤ s.size ∧ ((f ≠ 0) → (lexF s f L k).2 < s.size ∨ f + L.length < 3001)))
  | 0, L, k, hv, hl, hk => ⟨by simp [lexF], by simp [lexF], .inr ⟨rfl, by simp [lexF]; omega, fun h => absurd rfl h⟩⟩
  | f + 1, L, k, hv, hl, hk => by
    unfold lexF
    by_cases hlt : k < s.size
    · rw [if_pos hlt]
      by_cases hc : tokB (oneP s k).1.K (oneP s k).1.N (oneP s k).1.S = true ∧ L.length ≠ 3000
      · rw [if_pos hc]
        have ih := lexF_ok f (L ++ [(oneP s k).1]) (passN s false (oneP s k).2) (fun v h => by
          rcases List.mem_append.1 h with h | h
          · exact hv v h
          · rw [List.mem_singleton.1 h]; exact hc.1) (by simp; omega) (passN_le _ _ _)
        refine ⟨ih.1, ih.2.1, ih.2.2.imp id (fun h => ⟨h.1, h.2.1, fun _ => ?_⟩)⟩
        by_cases hf : f = 0
        · right; omega
        · rcases h.2.2 hf with h3 | h3
          · exact .inl h3
          · right; simp at h3; omega
      · rw [if_neg hc]
        exact ⟨by simp, by simp, .inr ⟨rfl, by simp only; omega, fun _ => .inl (by simp only; omega)⟩⟩
    · rw [if_neg hlt]
      exact ⟨hv, hl, .inl rfl⟩
end Go.Proofs.YtfgcflfnpeapaaaGreatDoor
