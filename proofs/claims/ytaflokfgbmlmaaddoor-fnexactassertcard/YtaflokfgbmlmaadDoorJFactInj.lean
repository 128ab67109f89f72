/-
  Plainly: the text of a fact that is right tells the fact: which bytes are in it, and that two such facts with one text are one.
-/
import Derived.Test.YtaflokfgbmlmaadDoorJFactTS
import Derived.Test.YtaflokfgbmlmaadDoorJValsP
import Derived.Test.YtaflokfgbmlmaadDoorJoined2
namespace Go.Proofs.YtaflokfgbmlmaadDoor
open Go.RowKit
set_option linter.unusedVariables false

/-- a byte of a value's text: a word's, a quote or a sign -/
def txB (c : UInt8) : Prop := c ≠ 44 ∧ c ≠ 40 ∧ c ≠ 41
theorem dec_bytes : ∀ (n u : Nat), u ≤ n → ∀ c ∈ Lib.decDigits u, 48 ≤ c.toNat ∧ c.toNat ≤ 57
  | 0, u, h, c, hc => by
    obtain rfl : u = 0 := by omega
    rw [Lib.decDigits_one (by omega)] at hc
    simp at hc; subst hc; decide
  | n + 1, u, h, c, hc => by
    by_cases hu : u < 10
    · rw [Lib.decDigits_one hu] at hc
      simp only [List.mem_cons, List.not_mem_nil, or_false] at hc
      subst hc
      have : (UInt8.ofNat (48 + u)).toNat = 48 + u := by simp; omega
      omega
    · rw [Lib.decDigits, dif_neg hu] at hc
      rcases List.mem_append.1 hc with h1 | h1
      · exact dec_bytes n (u / 10) (by omega) c h1
      · simp only [List.mem_cons, List.not_mem_nil, or_false] at h1
        subst h1
        have : (UInt8.ofNat (48 + u % 10)).toNat = 48 + u % 10 := by simp; omega
        omega
theorem u8_ne {c : UInt8} {k : Nat} (hk : k < 256) (h : c.toNat ≠ k) : c ≠ UInt8.ofNat k := by
  intro e; apply h; rw [e]; simp; omega
theorem itoa_bytes (n : Int) : ∀ c ∈ Lib.itoa n, txB c := by
  intro c hc
  have k : ∀ u, c ∈ Lib.decDigits u → txB c := fun u h => by
    have := dec_bytes u u (Nat.le_refl _) c h
    exact ⟨u8_ne (k := 44) (by omega) (by omega), u8_ne (k := 40) (by omega) (by omega), u8_ne (k := 41) (by omega) (by omega)⟩
  unfold Lib.itoa at hc
  split at hc
  · rcases List.mem_cons.1 hc with rfl | h
    · exact ⟨by decide, by decide, by decide⟩
    · exact k _ h
  · exact k _ hc
theorem itoa_ne (n : Int) : Lib.itoa n ≠ [] := by
  unfold Lib.itoa; split
  · simp
  · exact decDigits_ne _
theorem word_byte {c : UInt8} (h : wordB (c.toNat : Int) = true) : txB c := by
  have h2 : c.toNat ≠ 44 ∧ c.toNat ≠ 40 ∧ c.toNat ≠ 41 := by
    unfold wordB inB at h
    simp only [Bool.or_eq_true, Bool.and_eq_true, decide_eq_true_eq, beq_iff_eq] at h
    omega
  exact ⟨u8_ne (k := 44) (by omega) h2.1, u8_ne (k := 40) (by omega) h2.2.1, u8_ne (k := 41) (by omega) h2.2.2⟩
theorem bat_mem {s : ByteArray} {p : Int → Bool} (h : ∀ i, i < s.size → p (bat s i) = true) : ∀ c ∈ s.data.toList, p (c.toNat : Int) = true := by
  intro c hc
  obtain ⟨i, hi, rfl⟩ := List.getElem_of_mem hc
  have hi2 : i < s.size := by rw [Array.length_toList] at hi; exact hi
  have := h i hi2
  rw [bat_in hi2] at this
  exact this
theorem textB_bytes {s : ByteArray} (h : textB s = true) : ∀ c ∈ s.data.toList, wordB (c.toNat : Int) = true := by
  refine bat_mem (p := wordB) (fun i hi => ?_)
  unfold textB at h
  rw [Bool.and_eq_true] at h
  exact List.all_eq_true.1 h.1 i (by simpa using hi)
theorem nameB_bytes {s : ByteArray} (h : nameB s = true) : ∀ c ∈ s.data.toList, txB c := by
  intro c hc
  refine word_byte (bat_mem (p := wordB) (fun i hi => ?_) c hc)
  unfold nameB at h
  rw [Bool.and_eq_true] at h
  have := List.all_eq_true.1 h.1 i (by simpa using hi)
  unfold headB at this
  rw [Bool.and_eq_true] at this
  exact this.1
theorem tx_bytes {v : V3} (h : v.ok = true) : (∀ c ∈ v.tx.data.toList, txB c) ∧ v.tx.data.toList ≠ [] := by
  obtain ⟨K, N, S⟩ := v
  have h' : valB K N S = true := h
  show (∀ c ∈ (textV K N S).data.toList, txB c) ∧ (textV K N S).data.toList ≠ []
  by_cases hk : K = 1
  · subst hk
    rw [textV_num h']
    exact ⟨by simpa using itoa_bytes N, by simpa using itoa_ne N⟩
  · rw [textV_text h' hk]
    have ht : textB S = true := by
      unfold valB at h'
      rw [Bool.or_eq_true] at h'
      rcases h' with h1 | h1
      · simp only [Bool.and_eq_true, beq_iff_eq] at h1; exact absurd h1.1.1 hk
      · simp only [Bool.and_eq_true] at h1; exact h1.1.2
    refine ⟨fun c hc => ?_, by simp⟩
    have hc2 : c = 39 ∨ c ∈ S.data.toList := by
      have : c ∈ [39] ++ S.data.toList ++ [39] := by simpa using hc
      simp only [List.mem_append, List.mem_cons, List.not_mem_nil, or_false] at this
      rcases this with (h | h) | h
      · exact .inl h
      · exact .inr h
      · exact .inl h
    rcases hc2 with rfl | hc2
    · exact ⟨by decide, by decide, by decide⟩
    · exact word_byte (textB_bytes ht c hc2)
theorem tx_inj {v u : V3} (h : v.ok = true) (h' : u.ok = true) (e : v.tx = u.tx) : v = u := by
  have p1 := parse_back v.K v.N v.S h
  have p2 := parse_back u.K u.N u.S h'
  have : textV v.K v.N v.S = textV u.K u.N u.S := e
  rw [this, p2] at p1
  simp only [Option.some.injEq, V3.mk.injEq] at p1
  exact V3.ext' p1.1.symm p1.2.1.symm p1.2.2.symm

/-- what stands ahead of the first such byte is told by the whole -/
theorem cut_inj {s : UInt8} : ∀ {a b x y : List UInt8}, s ∉ a → s ∉ b → a ++ s :: x = b ++ s :: y → a = b ∧ x = y
  | [], [], x, y, _, _, e => by simp at e; exact ⟨rfl, e⟩
  | [], c :: b, x, y, _, hb, e => by simp at e; exact absurd (by simp [e.1]) hb
  | c :: a, [], x, y, ha, _, e => by simp at e; exact absurd (by simp [e.1]) ha
  | c :: a, d :: b, x, y, ha, hb, e => by
    simp at e ha hb
    obtain ⟨h1, h2⟩ := cut_inj ha.2 hb.2 e.2
    exact ⟨by rw [e.1, h1], h2⟩
theorem inter_cons (s : UInt8) (p q : List UInt8) (t : List (List UInt8)) : List.intercalate [s] (p :: q :: t) = p ++ (s :: List.intercalate [s] (q :: t)) := by simp [List.intercalate, List.intersperse]
theorem inter_one (s : UInt8) (p : List UInt8) : List.intercalate [s] [p] = p := by simp [List.intercalate]
theorem inter_inj {s : UInt8} : ∀ {A B : List (List UInt8)}, (∀ a ∈ A, s ∉ a) → (∀ b ∈ B, s ∉ b) → A ≠ [] → B ≠ [] → List.intercalate [s] A = List.intercalate [s] B → A = B
  | [a], [b], _, _, _, _, e => by rw [inter_one, inter_one] at e; rw [e]
  | [a], b :: c :: B, ha, hb, _, _, e => by
    rw [inter_one, inter_cons] at e
    exact absurd (by rw [e]; simp) (ha a (by simp))
  | a :: c :: A, [b], ha, hb, _, _, e => by
    rw [inter_one, inter_cons] at e
    exact absurd (by rw [← e]; simp) (hb b (by simp))
  | a :: c :: A, b :: d :: B, ha, hb, _, _, e => by
    rw [inter_cons, inter_cons] at e
    obtain ⟨h1, h2⟩ := cut_inj (ha a (by simp)) (hb b (by simp)) e
    have := inter_inj (A := c :: A) (B := d :: B) (fun x hx => ha x (List.mem_cons_of_mem _ hx)) (fun x hx => hb x (List.mem_cons_of_mem _ hx)) (by simp) (by simp) h2
    rw [h1, this]
theorem map_tx_inj : ∀ {L M : List V3}, (∀ v ∈ L, v.ok = true) → (∀ v ∈ M, v.ok = true) → (L.map fun v => v.tx.data.toList) = (M.map fun v => v.tx.data.toList) → L = M
  | [], [], _, _, _ => rfl
  | [], _ :: _, _, _, e => by simp at e
  | _ :: _, [], _, _, e => by simp at e
  | a :: L, b :: M, hL, hM, e => by
    simp only [List.map_cons, List.cons.injEq] at e
    have h1 : a.tx = b.tx := ByteArray.ext (Array.toList_inj.1 e.1)
    rw [tx_inj (hL a (by simp)) (hM b (by simp)) h1, map_tx_inj (fun x hx => hL x (List.mem_cons_of_mem _ hx)) (fun x hx => hM x (List.mem_cons_of_mem _ hx)) e.2]
theorem joinV_inj {L M : List V3} (hL : ∀ v ∈ L, v.ok = true) (hM : ∀ v ∈ M, v.ok = true) (e : joinV L = joinV M) : L = M := by
  have key : ∀ {A : List V3}, (∀ v ∈ A, v.ok = true) → joinV A = [] → A = [] := fun {A} hA h => by
    cases A with
    | nil => rfl
    | cons a A =>
      exfalso
      have hne := (tx_bytes (hA a (by simp))).2
      unfold joinV Lib.join at h
      cases A with
      | nil => rw [List.map_cons, List.map_nil, inter_one] at h; exact hne h
      | cons b A => rw [List.map_cons, List.map_cons, inter_cons] at h; simp at h
  cases L with
  | nil => exact (key hM (by rw [← e]; rfl)).symm
  | cons a L =>
    cases M with
    | nil => exact key hL (by rw [e]; rfl)
    | cons b M =>
      apply map_tx_inj hL hM
      unfold joinV Lib.join at e
      refine inter_inj (s := 44) ?_ ?_ (by simp) (by simp) e
      · intro x hx hc
        obtain ⟨v, hv, rfl⟩ := List.mem_map.1 hx
        exact ((tx_bytes (hL v hv)).1 44 hc).1 rfl
      · intro x hx hc
        obtain ⟨v, hv, rfl⟩ := List.mem_map.1 hx
        exact ((tx_bytes (hM v hv)).1 44 hc).1 rfl
theorem factT_list {kd : ByteArray} {L : List V3} (h : factB kd L = true) : (factT kd L).data.toList = kd.data.toList ++ 40 :: (joinV L ++ [41]) := by
  rw [factT_yes h]; simp
theorem factT_inj {kd kd' : ByteArray} {L M : List V3} (h : factB kd L = true) (h' : factB kd' M = true) (e : factT kd L = factT kd' M) : kd = kd' ∧ L = M := by
  have e2 : (factT kd L).data.toList = (factT kd' M).data.toList := by rw [e]
  rw [factT_list h, factT_list h'] at e2
  obtain ⟨n1, -, o1⟩ := factB_open h
  obtain ⟨n2, -, o2⟩ := factB_open h'
  obtain ⟨h1, h2⟩ := cut_inj (s := 40) (fun hc => (nameB_bytes n1 40 hc).2.1 rfl) (fun hc => (nameB_bytes n2 40 hc).2.1 rfl) e2
  exact ⟨ByteArray.ext (Array.toList_inj.1 h1), joinV_inj o1 o2 (List.append_cancel_right h2)⟩
theorem sameF_text {kd kd' : ByteArray} {L M : List V3} (h : factB kd L = true) (h' : factB kd' M = true) : sameF kd L kd' M = decide (factT kd L = factT kd' M) := by
  rw [Bool.eq_iff_iff, decide_eq_true_iff]
  unfold sameF
  rw [Bool.and_eq_true, decide_eq_true_iff, decide_eq_true_iff]
  constructor
  · rintro ⟨rfl, rfl⟩; rfl
  · exact factT_inj h h'
end Go.Proofs.YtaflokfgbmlmaadDoor
