/-
  When a rule is right, plainly: ruleB as the model has it, ruleI as the tested program looks at it; they are the same.
-/
import Derived.Test.YtcfhpcbkdpgboaaGreatJoined2
import Derived.Test.YtcfhpcbkdpgboaaGreatJoined1
import Derived.Test.YtcfhpcbkdpgboaaGreatJActOk
namespace Go.Proofs.YtcfhpcbkdpgboaaGreat
open Go.RowKit
set_option linter.unusedVariables false

/-- an argument that is no variable, or one of these -/
def knownB (a : A5) (vs : List ByteArray) : Bool := !decide (a.K = 1) || hasS vs a.S
def PE.okB (p : PE) : Bool := patB p.kd p.L
def C11.okB (c : C11) : Bool := condB c.Op c.L c.R
def QE.okB (a : QE) : Bool := actB a.K a.nm a.L a.N a.un
/-- the model's look at the i-th pattern -/
def stepP (P : List PE) (i : Nat) : Bool := !(decide (2 < i) && !(eAt P i).nt) && ((eAt P i).okB && !(decide (i = 0) && (eAt P i).nt) && !((decide (0 < i) && (eAt P (i - 1)).nt) && !(eAt P i).nt))
def patsB (P : List PE) : Bool := (List.range P.length).all (stepP P) && inB P.length 1 6
def condK (vs : List ByteArray) (c : C11) : Bool := c.okB && knownB c.L vs && knownB c.R vs
def termK (vs : List ByteArray) (e : X11) : Bool := knownB e.L vs && knownB e.R vs
def actK (vs : List ByteArray) (pos : Nat) (a : QE) : Bool := a.okB && !(decide (a.K = 2) && decide ((pos : Int) ≤ a.N)) && a.L.all (termK vs)
def ruleB (x : RE) : Bool :=
  nameB x.nm && inB x.sal (-100) 100 && patsB x.P && (x.C.all (condK (varsB [] (posB x.P))) && decide (x.C.length ≤ 6)) && (x.A.all (actK (varsB [] (posB x.P)) (posB x.P).length) && inB x.A.length 1 6)

/-- the tested program's look: is this argument among those of a pattern that is not Not? -/
def sameA (a b : A5) : Bool := decide (a.K = b.K) && decide (a.S = b.S) && decide (a.V = b.V)
def bindsI (J : List PE) (a : A5) : Bool := !decide (a.K = 1) || J.any (fun p => p.L.any (fun b => sameA a b))
def patsI (P : List PE) : Bool := (inB P.length 1 6 && P.all PE.okB) && (inB (posB P).length 1 3 && (P.take (posB P).length).all (fun p => !p.nt))
def condI (J : List PE) (c : C11) : Bool := c.okB && bindsI J c.L && bindsI J c.R
def termI (J : List PE) (e : X11) : Bool := bindsI J e.L && bindsI J e.R
def actI (J : List PE) (a : QE) : Bool := a.okB && (!decide (a.K = 2) || decide (a.N < (J.length : Int))) && (decide (a.L.length ≤ 5) && a.L.all (termI J))
def ruleI (x : RE) : Bool :=
  nameB x.nm && inB x.sal (-100) 100 && patsI x.P && (decide (x.C.length ≤ 6) && x.C.all (condI (posB x.P))) && (inB x.A.length 1 6 && x.A.all (actI (posB x.P)))

/-- the first c are not Not, all others are -/
def SplitAt (P : List PE) (c : Nat) : Prop := c ≤ P.length ∧ (∀ i, i < c → (eAt P i).nt = false) ∧ ∀ i, c ≤ i → i < P.length → (eAt P i).nt = true
theorem split_pos {P : List PE} {c : Nat} (h : SplitAt P c) : posB P = P.take c := by
  obtain ⟨hc, h1, h2⟩ := h
  have e : P = P.take c ++ P.drop c := (List.take_append_drop c P).symm
  have a1 : posB (P.take c) = P.take c := by
    unfold posB
    rw [List.filter_eq_self]
    intro p hp
    obtain ⟨i, hi, rfl⟩ := List.getElem_of_mem hp
    rw [List.length_take] at hi
    have := h1 i (by omega)
    rw [eAt_in (by omega)] at this
    rw [List.getElem_take, this]; rfl
  have a2 : posB (P.drop c) = [] := by
    unfold posB
    rw [List.filter_eq_nil_iff]
    intro p hp
    obtain ⟨i, hi, rfl⟩ := List.getElem_of_mem hp
    rw [List.length_drop] at hi
    have := h2 (c + i) (by omega) (by omega)
    rw [eAt_in (by omega)] at this
    rw [List.getElem_drop, this]; simp
  have a3 : posB P = posB (P.take c) ++ posB (P.drop c) := by
    unfold posB
    rw [← List.filter_append, List.take_append_drop]
  rw [a3, a1, a2, List.append_nil]
theorem split_of {P : List PE} (h : (P.take (posB P).length).all (fun p => !p.nt) = true) : SplitAt P (posB P).length := by
  have hl := posB_len P
  rw [List.all_eq_true] at h
  have h1 : ∀ i, i < (posB P).length → (eAt P i).nt = false := fun i hi => by
    have hlt : i < (P.take (posB P).length).length := by rw [List.length_take]; omega
    have := h (P.take (posB P).length)[i] (List.getElem_mem hlt)
    rw [List.getElem_take, ← eAt_in] at this
    simpa using this
  refine ⟨hl, h1, fun i hi hi2 => ?_⟩
  obtain ⟨c, hc⟩ : ∃ c, c = (posB P).length := ⟨_, rfl⟩
  rw [← hc] at h1 hi hl
  have a1 : posB (P.take c) = P.take c := by
    unfold posB
    rw [List.filter_eq_self]
    intro p hp
    obtain ⟨j, hj, rfl⟩ := List.getElem_of_mem hp
    rw [List.length_take] at hj
    have := h1 j (by omega)
    rw [eAt_in (by omega)] at this
    rw [List.getElem_take, this]; rfl
  have a3 : posB P = posB (P.take c) ++ posB (P.drop c) := by
    unfold posB
    rw [← List.filter_append, List.take_append_drop]
  have a4 : (posB (P.drop c)).length = 0 := by
    have := congrArg List.length a3
    rw [a1, List.length_append, List.length_take, ← hc] at this
    omega
  have a5 := List.eq_nil_of_length_eq_zero a4
  unfold posB at a5
  rw [List.filter_eq_nil_iff] at a5
  have hlt : i - c < (P.drop c).length := by rw [List.length_drop]; omega
  have := a5 (P.drop c)[i - c] (List.getElem_mem hlt)
  rw [List.getElem_drop] at this
  rw [eAt_in hi2]
  have e : c + (i - c) = i := by omega
  simpa [e] using this
theorem stepP_t {P : List PE} {i : Nat} (h : stepP P i = true) : (2 < i → (eAt P i).nt = true) ∧ (eAt P i).okB = true ∧ (i = 0 → (eAt P i).nt = false) ∧ (0 < i → (eAt P (i - 1)).nt = true → (eAt P i).nt = true) := by
  unfold stepP at h
  simp only [Bool.and_eq_true, Bool.not_eq_true', Bool.and_eq_false_iff, decide_eq_false_iff_not, Bool.not_eq_false'] at h
  obtain ⟨h1, ⟨h2, h3⟩, h4⟩ := h
  refine ⟨fun hi => ?_, h2, fun hi => ?_, fun hi hn => ?_⟩
  · rcases h1 with h1 | h1
    · exact absurd hi h1
    · exact h1
  · rcases h3 with h3 | h3
    · exact absurd hi h3
    · exact h3
  · rcases h4 with h4 | h4
    · rcases h4 with h4 | h4
      · exact absurd hi h4
      · rw [hn] at h4; cases h4
    · exact h4
theorem stepP_of {P : List PE} {i : Nat} (h1 : 2 < i → (eAt P i).nt = true) (h2 : (eAt P i).okB = true) (h3 : i = 0 → (eAt P i).nt = false) (h4 : 0 < i → (eAt P (i - 1)).nt = true → (eAt P i).nt = true) : stepP P i = true := by
  unfold stepP
  simp only [Bool.and_eq_true, Bool.not_eq_true', Bool.and_eq_false_iff, decide_eq_false_iff_not, Bool.not_eq_false']
  refine ⟨?_, ⟨h2, ?_⟩, ?_⟩
  · by_cases h : 2 < i
    · exact .inr (h1 h)
    · exact .inl h
  · by_cases h : i = 0
    · exact .inr (h3 h)
    · exact .inl h
  · by_cases h : 0 < i
    · cases hn : (eAt P (i - 1)).nt
      · exact .inl (.inr rfl)
      · exact .inr (h4 h hn)
    · exact .inl (.inl h)
theorem split_steps {P : List PE} (h : ∀ i, i < P.length → stepP P i = true) : ∃ c, SplitAt P c := by
  have key : ∀ k, k ≤ P.length → ∃ c, c ≤ k ∧ (∀ i, i < c → (eAt P i).nt = false) ∧ ∀ i, c ≤ i → i < k → (eAt P i).nt = true := by
    intro k
    induction k with
    | zero => exact fun _ => ⟨0, Nat.le_refl _, fun i hi => absurd hi (Nat.not_lt_zero _), fun i _ hi => absurd hi (Nat.not_lt_zero _)⟩
    | succ k ih =>
      intro hk
      obtain ⟨c, h1, h2, h3⟩ := ih (by omega)
      cases hn : (eAt P k).nt
      · by_cases hck : c = k
        · subst hck
          exact ⟨c + 1, Nat.le_refl _, fun i hi => by
            by_cases e : i = c
            · rw [e]; exact hn
            · exact h2 i (by omega), fun i hi hi2 => by omega⟩
        · have h5 := h3 (k - 1) (by omega) (by omega)
          have h6 := (stepP_t (h k (by omega))).2.2.2 (by omega) h5
          rw [hn] at h6; cases h6
      · exact ⟨c, by omega, h2, fun i hi hi2 => by
          by_cases e : i = k
          · rw [e]; exact hn
          · exact h3 i hi (by omega)⟩
  obtain ⟨c, h1, h2, h3⟩ := key P.length (Nat.le_refl _)
  exact ⟨c, h1, h2, h3⟩
theorem all_eAt {α : Type} [Inhabited α] {L : List α} {p : α → Bool} : L.all p = true ↔ ∀ i, i < L.length → p (eAt L i) = true := by
  rw [List.all_eq_true]
  exact ⟨fun h i hi => h _ (eAt_mem hi), fun h x hx => by obtain ⟨i, hi, rfl⟩ := mem_eAt hx; exact h i hi⟩
theorem inB_iff {x a b : Int} : inB x a b = true ↔ a ≤ x ∧ x ≤ b := by unfold inB; simp
theorem patsB_I (P : List PE) : patsB P = patsI P := by
  rw [Bool.eq_iff_iff]
  unfold patsB patsI
  simp only [Bool.and_eq_true, inB_iff, List.all_eq_true, List.mem_range]
  constructor
  · rintro ⟨h, hl⟩
    obtain ⟨c, hs⟩ := split_steps h
    have hp := split_pos hs
    obtain ⟨hc, s1, s2⟩ := hs
    have hcl : (posB P).length = c := by rw [hp, List.length_take]; omega
    have h0 : 0 < c := by
      rcases Nat.eq_zero_or_pos c with e | e
      · have a := s2 0 (by omega) (by omega)
        have b := (stepP_t (h 0 (by omega))).2.2.1 rfl
        rw [a] at b; cases b
      · exact e
    have h3 : c ≤ 3 := by
      rcases Nat.lt_or_ge 3 c with e | e
      · have a := s1 3 e
        have b := (stepP_t (h 3 (by omega))).1 (by omega)
        rw [a] at b; cases b
      · exact e
    refine ⟨⟨hl, fun p hp => ?_⟩, by rw [hcl]; omega, fun p hpp => ?_⟩
    · obtain ⟨i, hi, rfl⟩ := mem_eAt hp
      exact (stepP_t (h i hi)).2.1
    · rw [hcl] at hpp
      obtain ⟨i, hi, rfl⟩ := List.getElem_of_mem hpp
      rw [List.length_take] at hi
      have := s1 i (by omega)
      rw [eAt_in (by omega)] at this
      rw [List.getElem_take, this]; rfl
  · rintro ⟨⟨hl, hok⟩, hc, hall⟩
    obtain ⟨h1, s1, s2⟩ := split_of (P := P) (List.all_eq_true.2 hall)
    refine ⟨fun i hi => stepP_of (fun h => s2 i (by omega) hi) (hok _ (eAt_mem hi)) (fun h => s1 i (by omega)) (fun h hn => ?_), hl⟩
    by_cases e : i < (posB P).length
    · rw [s1 (i - 1) (by omega)] at hn; cases hn
    · exact s2 i (by omega) hi

theorem names_mem {L : List A5} {s : ByteArray} : s ∈ namesOf L ↔ ∃ b ∈ L, b.K = 1 ∧ b.S = s := by
  unfold namesOf
  rw [List.mem_map]
  constructor
  · rintro ⟨b, hb, e⟩
    rw [List.mem_filter] at hb
    exact ⟨b, hb.1, by simpa using hb.2, e⟩
  · rintro ⟨b, hb, h1, e⟩
    exact ⟨b, List.mem_filter.2 ⟨hb, by simpa using h1⟩, e⟩
theorem addS_mem_iff {l : List ByteArray} {x y : ByteArray} : x ∈ addS l y ↔ x ∈ l ∨ x = y := by
  unfold addS
  by_cases h : hasS l y = true
  · rw [if_pos h]
    exact ⟨.inl, fun h2 => h2.elim id (fun e => by rw [e]; exact hasS_mem.1 h)⟩
  · rw [if_neg h]; simp
theorem adds_mem_iff {x : ByteArray} : ∀ (s l : List ByteArray), x ∈ adds l s ↔ x ∈ l ∨ x ∈ s
  | [], l => by simp [adds]
  | y :: r, l => by
    have e : adds l (y :: r) = adds (addS l y) r := rfl
    rw [e, adds_mem_iff r, addS_mem_iff, List.mem_cons, or_assoc]
theorem varsB_mem {s : ByteArray} : ∀ (J : List PE) (l : List ByteArray), s ∈ varsB l J ↔ s ∈ l ∨ ∃ p ∈ J, ∃ b ∈ p.L, b.K = 1 ∧ b.S = s
  | [], l => by simp [varsB]
  | p :: r, l => by
    have e : varsB l (p :: r) = varsB (varsF l p.L) r := rfl
    rw [e, varsB_mem r, varsF_names, adds_mem_iff, names_mem, or_assoc]
    simp only [List.mem_cons, exists_eq_or_imp]
/-- a variable that is right has no more than its kind and its name -/
theorem ok_var {a : A5} (h : a.ok = true) (h1 : a.K = 1) : a.V = zV := by
  obtain ⟨K, S, V⟩ := a
  simp only at h1
  subst h1
  have e : A5.ok ⟨1, S, V⟩ = (varB S && decide (V = zV)) := rfl
  rw [e, Bool.and_eq_true] at h
  simpa using h.2
theorem sameA_t {a b : A5} (h : sameA a b = true) : a = b := by
  unfold sameA at h
  simp only [Bool.and_eq_true, decide_eq_true_eq] at h
  obtain ⟨⟨h1, h2⟩, h3⟩ := h
  cases a; cases b
  simp only at h1 h2 h3
  rw [h1, h2, h3]
theorem sameA_refl (a : A5) : sameA a a = true := by simp [sameA]
theorem known_I {J : List PE} {a : A5} (hJ : ∀ p ∈ J, ∀ b ∈ p.L, b.ok = true) (ha : a.K = 1 → a.V = zV) : bindsI J a = knownB a (varsB [] J) := by
  unfold bindsI knownB
  by_cases h1 : a.K = 1
  · rw [decide_eq_true h1]
    simp only [Bool.not_true, Bool.false_or]
    rw [Bool.eq_iff_iff, hasS_mem, varsB_mem]
    simp only [List.any_eq_true, List.not_mem_nil, false_or]
    constructor
    · rintro ⟨p, hp, b, hb, h⟩
      have := sameA_t h
      subst this
      exact ⟨p, hp, a, hb, h1, rfl⟩
    · rintro ⟨p, hp, b, hb, e1, e2⟩
      refine ⟨p, hp, b, hb, ?_⟩
      have hv := ok_var (hJ p hp b hb) e1
      unfold sameA
      rw [h1, e1, e2, hv, ha h1]
      simp
  · rw [decide_eq_false h1]; rfl
theorem may_var {K : Int} {S : ByteArray} {V : V3} (h : mayB K S V = true) (h1 : K = 1) : V = zV := by
  unfold mayB at h
  rw [Bool.and_eq_true] at h
  exact ok_var (a := ⟨K, S, V⟩) h.1 h1
theorem cond_var {c : C11} (h : c.okB = true) : (c.L.K = 1 → c.L.V = zV) ∧ (c.R.K = 1 → c.R.V = zV) := by
  unfold C11.okB condB at h
  simp only [Bool.and_eq_true] at h
  exact ⟨may_var h.2.1, may_var h.2.2⟩
theorem condK_I {J : List PE} (hJ : ∀ p ∈ J, ∀ b ∈ p.L, b.ok = true) (c : C11) : condI J c = condK (varsB [] J) c := by
  unfold condI condK
  cases h : c.okB
  · rfl
  · rw [known_I hJ (cond_var h).1, known_I hJ (cond_var h).2]
theorem expr_var {e : X11} (h : e.ok = true) : (e.L.K = 1 → e.L.V = zV) ∧ (e.R.K = 1 → e.R.V = zV) := by
  obtain ⟨Op, L, R⟩ := e
  have h : exprB Op L R = true := h
  show (L.K = 1 → L.V = zV) ∧ (R.K = 1 → R.V = zV)
  unfold exprB at h
  by_cases h0 : Op.size = 0
  · rw [if_pos h0, Bool.and_eq_true] at h
    refine ⟨may_var h.1, fun hk => ?_⟩
    have h2 := h.2
    unfold noArg at h2
    simp only [Bool.and_eq_true, decide_eq_true_eq] at h2
    exact h2.2
  · rw [if_neg h0] at h
    split at h
    · rw [Bool.and_eq_true] at h
      exact ⟨may_var h.1, may_var h.2⟩
    · cases h
theorem termK_I {J : List PE} (hJ : ∀ p ∈ J, ∀ b ∈ p.L, b.ok = true) {e : X11} (h : e.ok = true) : termI J e = termK (varsB [] J) e := by
  unfold termI termK
  rw [known_I hJ (expr_var h).1, known_I hJ (expr_var h).2]
theorem bareX_t {nm : ByteArray} {L : List X11} (h : bareX nm L = true) : L = [] := by
  unfold bareX at h
  simp only [Bool.and_eq_true, decide_eq_true_eq] at h
  exact List.eq_nil_of_length_eq_zero h.2
theorem namedX_t {nm : ByteArray} {L : List X11} (h : namedX nm L = true) : L.length ≤ 5 ∧ ∀ e ∈ L, e.ok = true := by
  unfold namedX at h
  simp only [Bool.and_eq_true, decide_eq_true_eq, List.all_eq_true] at h
  exact ⟨h.1.2, h.2⟩
theorem bare_terms {nm : ByteArray} {L : List X11} (h : bareX nm L = true) : L.length ≤ 5 ∧ ∀ e ∈ L, e.ok = true := by
  rw [bareX_t h]
  exact ⟨by simp, fun e he => by cases he⟩
theorem act_terms {K : Int} {nm : ByteArray} {L : List X11} {N : Int} {un : ByteArray} (h : actB K nm L N un = true) : L.length ≤ 5 ∧ ∀ e ∈ L, e.ok = true := by
  unfold actB at h
  split at h
  · simp only [Bool.and_eq_true] at h; exact namedX_t h.1.1
  split at h
  · simp only [Bool.and_eq_true] at h; exact bare_terms h.1.1
  split at h
  · simp only [Bool.and_eq_true] at h; exact namedX_t h.1.1
  split at h
  · simp only [Bool.and_eq_true] at h; exact namedX_t h.1.1
  split at h
  · simp only [Bool.and_eq_true] at h; exact bare_terms h.1.1
  · cases h
theorem all_cong {α : Type} {p q : α → Bool} {L : List α} (h : ∀ x ∈ L, p x = q x) : L.all p = L.all q := by
  rw [Bool.eq_iff_iff, List.all_eq_true, List.all_eq_true]
  exact ⟨fun k x hx => by rw [← h x hx]; exact k x hx, fun k x hx => by rw [h x hx]; exact k x hx⟩
theorem drop_same (K N : Int) (n : Nat) : (!decide (K = 2) || decide (N < (n : Int))) = !(decide (K = 2) && decide ((n : Int) ≤ N)) := by
  by_cases h : K = 2
  · by_cases h2 : N < (n : Int)
    · rw [decide_eq_true h, decide_eq_true h2, decide_eq_false (by omega)]; rfl
    · rw [decide_eq_true h, decide_eq_false h2, decide_eq_true (by omega)]; rfl
  · rw [decide_eq_false h]; rfl
theorem actK_I {J : List PE} (hJ : ∀ p ∈ J, ∀ b ∈ p.L, b.ok = true) (a : QE) : actI J a = actK (varsB [] J) J.length a := by
  unfold actI actK
  cases h : a.okB
  · rfl
  · obtain ⟨h1, h2⟩ := act_terms (show actB a.K a.nm a.L a.N a.un = true from h)
    rw [drop_same, decide_eq_true h1, all_cong (fun e he => termK_I hJ (h2 e he))]
    simp
theorem ruleB_I (x : RE) : ruleB x = ruleI x := by
  unfold ruleB ruleI
  rw [← patsB_I]
  cases h : patsB x.P
  · simp
  · have hok : ∀ p ∈ posB x.P, ∀ b ∈ p.L, b.ok = true := fun p hp b hb => by
      rw [patsB_I] at h
      unfold patsI at h
      simp only [Bool.and_eq_true, List.all_eq_true] at h
      have h2 : patB p.kd p.L = true := h.1.2 p (List.mem_filter.1 hp).1
      unfold patB at h2
      simp only [Bool.and_eq_true, List.all_eq_true] at h2
      exact h2.2 b hb
    rw [all_cong (fun c _ => condK_I hok c), all_cong (fun a _ => actK_I hok a), Bool.and_comm (x.C.all _), Bool.and_comm (x.A.all _)]
/-- the same by what is plain -/
theorem stepP_pl {K J : List PE} (h : K.map PE.pl = J.map PE.pl) {i : Nat} (hi : i < K.length) : stepP K i = stepP J i := by
  have e1 := PE.pl_inj (map_at h hi)
  have e2 := PE.pl_inj (map_at h (i := i - 1) (by omega))
  unfold stepP PE.okB
  rw [e1.1, e1.2.1, e1.2.2, e2.2.2]
theorem patsB_pl {K J : List PE} (h : K.map PE.pl = J.map PE.pl) : patsB K = patsB J := by
  unfold patsB
  rw [← map_len h]
  rw [all_cong (fun i hi => stepP_pl h (List.mem_range.1 hi))]
theorem acts_pl {K J : List QE} (h : K.map QE.pl = J.map QE.pl) (vs : List ByteArray) (n : Nat) : K.all (actK vs n) = J.all (actK vs n) := by
  have e : ∀ L : List QE, L.all (actK vs n) = (L.map QE.pl).all (fun a => actB a.K a.nm a.L a.N a.un && !(decide (a.K = 2) && decide ((n : Int) ≤ a.N)) && a.L.all (termK vs)) := fun L => by
    rw [List.all_map]; rfl
  rw [e, e, h]
theorem ruleB_pl {x y : RE} (h : y.pl = x.pl) : ruleB y = ruleB x := by
  obtain ⟨e1, e2, e3, e4, e5⟩ := RE.pl_inj h
  unfold ruleB
  rw [e1, e2, patsB_pl e3, e4, varsB_pl (posB_pl e3), map_len (posB_pl e3), acts_pl e5, map_len e5]
end Go.Proofs.YtcfhpcbkdpgboaaGreat
