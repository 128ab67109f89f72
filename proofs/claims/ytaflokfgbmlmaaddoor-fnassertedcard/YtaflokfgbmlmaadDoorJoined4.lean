/-
  Texts of this claim joined into one: ValsP, FactInj, FactTI, ByText, AssM, CopySt, StoreI, AssI, FactOf, AssQ, SameX, Same1, Same2.
-/
import Derived.Test.YtaflokfgbmlmaadDoorJoined3
import Derived.Test.YtaflokfgbmlmaadDoorJFactL
import Derived.Test.YtaflokfgbmlmaadDoorShelf
import Derived.OwnWalk
import Derived.Test.YtaflokfgbmlmaadDoorJoined2
import Derived.Test.YtaflokfgbmlmaadDoorJoined1
import Derived.Maps.OwnSet
import Derived.StringKeys
import Derived.Deep.RegionWith
import Derived.Deep.DeepCutAuto
import Derived.Deep.RegionHeld3
import Derived.Test.YtaflokfgbmlmaadDoorJFactSame
/-
  Values come back of their bytes and of their texts, plainly.
-/
namespace Go.Proofs.YtaflokfgbmlmaadDoor
open Go.RowKit Go.Lib
set_option linter.unusedVariables false

theorem clamp_id {n : Int} (h : -1000000000 ≤ n ∧ n ≤ 1000000000) : clampN n = n := by unfold clampN; rw [if_neg (by omega), if_neg (by omega)]
theorem valB_one {N : Int} {S : ByteArray} (h : valB 1 N S = true) : (-1000000000 ≤ N ∧ N ≤ 1000000000) ∧ S = ⟨#[]⟩ := by
  by_cases hN : -1000000000 ≤ N ∧ N ≤ 1000000000
  · rw [valB_num S hN, decide_eq_true_iff] at h
    exact ⟨hN, empty_of_size h⟩
  · rw [valB_out S hN] at h; cases h
theorem valB_two {K N : Int} {S : ByteArray} (h : valB K N S = true) (hk : K ≠ 1) : K = 2 ∧ N = 0 ∧ S.size ≤ 20 := by
  by_cases h2 : K = 2
  · subst h2
    rw [valB_text, Bool.and_eq_true] at h
    exact ⟨rfl, by simpa using h.2, textB_le h.1⟩
  · rw [valB_none N S hk h2] at h; cases h

/-- a value that was put comes back, whatever stands ahead -/
theorem val_back (bs : List UInt8) (K N : Int) (S : ByteArray) (h : valB K N S = true) :
    valR (bs ++ encV K N S) (bs.length : Int) = (K, N, S, ((bs ++ encV K N S).length : Int), true) := by
  by_cases hk : K = 1
  · subst hk
    obtain ⟨hN, rfl⟩ := valB_one h
    rw [encV_num]
    have h1 := num_back bs (encN N) 1
    rw [clamp_id (by omega), List.append_assoc] at h1
    have h2 := num_back (bs ++ encN 1) [] N
    rw [clamp_id hN, List.append_nil, List.append_assoc] at h2
    rw [valR_num h1 h2, h]
    rfl
  · obtain ⟨rfl, rfl, hS⟩ := valB_two h hk
    rw [encV_text _ _ (by decide)]
    have h1 := num_back bs (encT S) 2
    rw [clamp_id (by omega), List.append_assoc] at h1
    have h2 := encT_back (bs ++ encN 2) S (by omega)
    rw [show (bs ++ encN 2 ++ (encN S.size ++ S.data.toList)) = bs ++ (encN 2 ++ encT S) by rw [List.append_assoc]; rfl] at h2
    rw [valR_text h1 (by decide) h2, h]
    rfl

theorem parse_back (K N : Int) (S : ByteArray) (h : valB K N S = true) : parseO (textV K N S) = some ⟨K, N, S⟩ := by
  by_cases hk : K = 1
  · subst hk
    obtain ⟨hN, rfl⟩ := valB_one h
    have hn := numV_itoa (n := N) (numOk_iff.2 hN)
    rw [textV_num h]
    have hq : quotedB ⟨(itoa N).toArray⟩ = false := by
      rw [Bool.eq_false_iff]
      intro hq
      obtain ⟨h1, h0, -⟩ := quotedB_iff.1 hq
      cases hl : itoa N with
      | nil => rw [hl] at h1; exact absurd h1 (by decide)
      | cons c r =>
        rw [hl] at hn h0
        rw [bat_in (by show 0 < (c :: r).toArray.size; simp)] at h0
        have hc : c.toNat = 39 := by
          have : ((ByteArray.mk (c :: r).toArray)[0]'(by show 0 < (c :: r).toArray.size; simp)) = c := by simp [ByteArray.getElem_eq_getElem_data]
          rw [this] at h0; omega
        rw [numV_head hc] at hn; cases hn
    unfold parseO
    rw [if_neg (by simp [hq])]
    show (numV ((itoa N).toArray).toList).map _ = _
    rw [List.toList_toArray, hn]; rfl
  · obtain ⟨rfl, rfl, hS⟩ := valB_two h hk
    rw [textV_text h hk]
    have e1 : (⟨#[39]⟩ : ByteArray).size = 1 := rfl
    have hsz : (⟨#[39]⟩ ++ S ++ ⟨#[39]⟩ : ByteArray).size = S.size + 2 := by simp only [ByteArray.size_append, e1]; omega
    have hq : quotedB (⟨#[39]⟩ ++ S ++ ⟨#[39]⟩) = true := by
      refine quotedB_iff.2 ⟨by omega, ?_, inner_last rfl⟩
      rw [bat_in (by omega), ByteArray.getElem_append_left (by simp only [ByteArray.size_append, e1]; omega), ByteArray.getElem_append_left (by rw [e1]; omega)]; rfl
    have hi : (⟨#[39]⟩ ++ S ++ ⟨#[39]⟩ : ByteArray).extract 1 ((⟨#[39]⟩ ++ S ++ ⟨#[39]⟩ : ByteArray).size - 1) = S := by
      apply ByteArray.ext_getElem
      · rw [ByteArray.size_extract, hsz]; omega
      · intro i hi hi'
        rw [ByteArray.getElem_extract, ByteArray.getElem_append_left (by simp only [ByteArray.size_append, e1]; omega), ByteArray.getElem_append_right (by rw [e1]; omega)]
        congr 1
        rw [e1]; omega
    unfold parseO
    rw [if_pos hq, hi, h]; rfl
theorem textV_size {K N : Int} {S : ByteArray} (h : valB K N S = true) : (textV K N S).size ≤ 22 := by
  by_cases hk : K = 1
  · subst hk
    obtain ⟨hN, rfl⟩ := valB_one h
    rw [textV_num h]
    show (itoa N).toArray.size ≤ 22
    simp only [List.size_toArray]
    by_cases hn : N < 0
    · rw [itoa_neg hn]; have := nDigits_10 N.natAbs (by omega); simp only [List.length_cons]; rw [decDigits_length]; omega
    · rw [itoa_pos hn]; have := nDigits_10 N.toNat (by omega); rw [decDigits_length]; omega
  · obtain ⟨rfl, rfl, hS⟩ := valB_two h hk
    rw [textV_text h hk]
    have e1 : (⟨#[39]⟩ : ByteArray).size = 1 := rfl
    simp only [ByteArray.size_append, e1]; omega
end Go.Proofs.YtaflokfgbmlmaadDoor
/-
  Plainly: the text of a fact that is right tells the fact: which bytes are in it, and that two such facts with one text are one.
-/
namespace Go.Proofs.YtaflokfgbmlmaadDoor
open Go.RowKit
set_option linter.unusedVariables false

/-- a byte of a value's text: a word's, a quote or a sign -/
def txB (c : UInt8) : Prop := c ≠ 44 ∧ c ≠ 40 ∧ c ≠ 41
theorem dec_bytes : ∀ (n u : Nat), u ≤ n → ∀ c ∈ Lib.decDigits u, 48 ≤ c.toNat ∧ c.toNat ≤ 57
  | 0, u, h, c, hc => by
    obtain rfl : u = 0 := by omega
    rw [Lib.decDigits_one (by omega)] at hc
    simp at hc; subst hc; decide
  | n + 1, u, h, c, hc => by
    by_cases hu : u < 10
    · rw [Lib.decDigits_one hu] at hc
      simp only [List.mem_cons, List.not_mem_nil, or_false] at hc
      subst hc
      have : (UInt8.ofNat (48 + u)).toNat = 48 + u := by simp; omega
      omega
    · rw [Lib.decDigits, dif_neg hu] at hc
      rcases List.mem_append.1 hc with h1 | h1
      · exact dec_bytes n (u / 10) (by omega) c h1
      · simp only [List.mem_cons, List.not_mem_nil, or_false] at h1
        subst h1
        have : (UInt8.ofNat (48 + u % 10)).toNat = 48 + u % 10 := by simp; omega
        omega
theorem u8_ne {c : UInt8} {k : Nat} (hk : k < 256) (h : c.toNat ≠ k) : c ≠ UInt8.ofNat k := by
  intro e; apply h; rw [e]; simp; omega
theorem itoa_bytes (n : Int) : ∀ c ∈ Lib.itoa n, txB c := by
  intro c hc
  have k : ∀ u, c ∈ Lib.decDigits u → txB c := fun u h => by
    have := dec_bytes u u (Nat.le_refl _) c h
    exact ⟨u8_ne (k := 44) (by omega) (by omega), u8_ne (k := 40) (by omega) (by omega), u8_ne (k := 41) (by omega) (by omega)⟩
  unfold Lib.itoa at hc
  split at hc
  · rcases List.mem_cons.1 hc with rfl | h
    · exact ⟨by decide, by decide, by decide⟩
    · exact k _ h
  · exact k _ hc
theorem itoa_ne (n : Int) : Lib.itoa n ≠ [] := by
  unfold Lib.itoa; split
  · simp
  · exact decDigits_ne _
theorem word_byte {c : UInt8} (h : wordB (c.toNat : Int) = true) : txB c := by
  have h2 : c.toNat ≠ 44 ∧ c.toNat ≠ 40 ∧ c.toNat ≠ 41 := by
    unfold wordB inB at h
    simp only [Bool.or_eq_true, Bool.and_eq_true, decide_eq_true_eq, beq_iff_eq] at h
    omega
  exact ⟨u8_ne (k := 44) (by omega) h2.1, u8_ne (k := 40) (by omega) h2.2.1, u8_ne (k := 41) (by omega) h2.2.2⟩
theorem bat_mem {s : ByteArray} {p : Int → Bool} (h : ∀ i, i < s.size → p (bat s i) = true) : ∀ c ∈ s.data.toList, p (c.toNat : Int) = true := by
  intro c hc
  obtain ⟨i, hi, rfl⟩ := List.getElem_of_mem hc
  have hi2 : i < s.size := by rw [Array.length_toList] at hi; exact hi
  have := h i hi2
  rw [bat_in hi2] at this
  exact this
theorem textB_bytes {s : ByteArray} (h : textB s = true) : ∀ c ∈ s.data.toList, wordB (c.toNat : Int) = true := by
  refine bat_mem (p := wordB) (fun i hi => ?_)
  unfold textB at h
  rw [Bool.and_eq_true] at h
  exact List.all_eq_true.1 h.1 i (by simpa using hi)
theorem nameB_bytes {s : ByteArray} (h : nameB s = true) : ∀ c ∈ s.data.toList, txB c := by
  intro c hc
  refine word_byte (bat_mem (p := wordB) (fun i hi => ?_) c hc)
  unfold nameB at h
  rw [Bool.and_eq_true] at h
  have := List.all_eq_true.1 h.1 i (by simpa using hi)
  unfold headB at this
  rw [Bool.and_eq_true] at this
  exact this.1
theorem tx_bytes {v : V3} (h : v.ok = true) : (∀ c ∈ v.tx.data.toList, txB c) ∧ v.tx.data.toList ≠ [] := by
  obtain ⟨K, N, S⟩ := v
  have h' : valB K N S = true := h
  show (∀ c ∈ (textV K N S).data.toList, txB c) ∧ (textV K N S).data.toList ≠ []
  by_cases hk : K = 1
  · subst hk
    rw [textV_num h']
    exact ⟨by simpa using itoa_bytes N, by simpa using itoa_ne N⟩
  · rw [textV_text h' hk]
    have ht : textB S = true := by
      unfold valB at h'
      rw [Bool.or_eq_true] at h'
      rcases h' with h1 | h1
      · simp only [Bool.and_eq_true, beq_iff_eq] at h1; exact absurd h1.1.1 hk
      · simp only [Bool.and_eq_true] at h1; exact h1.1.2
    refine ⟨fun c hc => ?_, by simp⟩
    have hc2 : c = 39 ∨ c ∈ S.data.toList := by
      have : c ∈ [39] ++ S.data.toList ++ [39] := by simpa using hc
      simp only [List.mem_append, List.mem_cons, List.not_mem_nil, or_false] at this
      rcases this with (h | h) | h
      · exact .inl h
      · exact .inr h
      · exact .inl h
    rcases hc2 with rfl | hc2
    · exact ⟨by decide, by decide, by decide⟩
    · exact word_byte (textB_bytes ht c hc2)
theorem tx_inj {v u : V3} (h : v.ok = true) (h' : u.ok = true) (e : v.tx = u.tx) : v = u := by
  have p1 := parse_back v.K v.N v.S h
  have p2 := parse_back u.K u.N u.S h'
  have : textV v.K v.N v.S = textV u.K u.N u.S := e
  rw [this, p2] at p1
  simp only [Option.some.injEq, V3.mk.injEq] at p1
  exact V3.ext' p1.1.symm p1.2.1.symm p1.2.2.symm

/-- what stands ahead of the first such byte is told by the whole -/
theorem cut_inj {s : UInt8} : ∀ {a b x y : List UInt8}, s ∉ a → s ∉ b → a ++ s :: x = b ++ s :: y → a = b ∧ x = y
  | [], [], x, y, _, _, e => by simp at e; exact ⟨rfl, e⟩
  | [], c :: b, x, y, _, hb, e => by simp at e; exact absurd (by simp [e.1]) hb
  | c :: a, [], x, y, ha, _, e => by simp at e; exact absurd (by simp [e.1]) ha
  | c :: a, d :: b, x, y, ha, hb, e => by
    simp at e ha hb
    obtain ⟨h1, h2⟩ := cut_inj ha.2 hb.2 e.2
    exact ⟨by rw [e.1, h1], h2⟩
theorem inter_cons (s : UInt8) (p q : List UInt8) (t : List (List UInt8)) : List.intercalate [s] (p :: q :: t) = p ++ (s :: List.intercalate [s] (q :: t)) := by simp [List.intercalate, List.intersperse]
theorem inter_one (s : UInt8) (p : List UInt8) : List.intercalate [s] [p] = p := by simp [List.intercalate]
theorem inter_inj {s : UInt8} : ∀ {A B : List (List UInt8)}, (∀ a ∈ A, s ∉ a) → (∀ b ∈ B, s ∉ b) → A ≠ [] → B ≠ [] → List.intercalate [s] A = List.intercalate [s] B → A = B
  | [a], [b], _, _, _, _, e => by rw [inter_one, inter_one] at e; rw [e]
  | [a], b :: c :: B, ha, hb, _, _, e => by
    rw [inter_one, inter_cons] at e
    exact absurd (by rw [e]; simp) (ha a (by simp))
  | a :: c :: A, [b], ha, hb, _, _, e => by
    rw [inter_one, inter_cons] at e
    exact absurd (by rw [← e]; simp) (hb b (by simp))
  | a :: c :: A, b :: d :: B, ha, hb, _, _, e => by
    rw [inter_cons, inter_cons] at e
    obtain ⟨h1, h2⟩ := cut_inj (ha a (by simp)) (hb b (by simp)) e
    have := inter_inj (A := c :: A) (B := d :: B) (fun x hx => ha x (List.mem_cons_of_mem _ hx)) (fun x hx => hb x (List.mem_cons_of_mem _ hx)) (by simp) (by simp) h2
    rw [h1, this]
theorem map_tx_inj : ∀ {L M : List V3}, (∀ v ∈ L, v.ok = true) → (∀ v ∈ M, v.ok = true) → (L.map fun v => v.tx.data.toList) = (M.map fun v => v.tx.data.toList) → L = M
  | [], [], _, _, _ => rfl
  | [], _ :: _, _, _, e => by simp at e
  | _ :: _, [], _, _, e => by simp at e
  | a :: L, b :: M, hL, hM, e => by
    simp only [List.map_cons, List.cons.injEq] at e
    have h1 : a.tx = b.tx := ByteArray.ext (Array.toList_inj.1 e.1)
    rw [tx_inj (hL a (by simp)) (hM b (by simp)) h1, map_tx_inj (fun x hx => hL x (List.mem_cons_of_mem _ hx)) (fun x hx => hM x (List.mem_cons_of_mem _ hx)) e.2]
theorem joinV_inj {L M : List V3} (hL : ∀ v ∈ L, v.ok = true) (hM : ∀ v ∈ M, v.ok = true) (e : joinV L = joinV M) : L = M := by
  have key : ∀ {A : List V3}, (∀ v ∈ A, v.ok = true) → joinV A = [] → A = [] := fun {A} hA h => by
    cases A with
    | nil => rfl
    | cons a A =>
      exfalso
      have hne := (tx_bytes (hA a (by simp))).2
      unfold joinV Lib.join at h
      cases A with
      | nil => rw [List.map_cons, List.map_nil, inter_one] at h; exact hne h
      | cons b A => rw [List.map_cons, List.map_cons, inter_cons] at h; simp at h
  cases L with
  | nil => exact (key hM (by rw [← e]; rfl)).symm
  | cons a L =>
    cases M with
    | nil => exact key hL (by rw [e]; rfl)
    | cons b M =>
      apply map_tx_inj hL hM
      unfold joinV Lib.join at e
      refine inter_inj (s := 44) ?_ ?_ (by simp) (by simp) e
      · intro x hx hc
        obtain ⟨v, hv, rfl⟩ := List.mem_map.1 hx
        exact ((tx_bytes (hL v hv)).1 44 hc).1 rfl
      · intro x hx hc
        obtain ⟨v, hv, rfl⟩ := List.mem_map.1 hx
        exact ((tx_bytes (hM v hv)).1 44 hc).1 rfl
theorem factT_list {kd : ByteArray} {L : List V3} (h : factB kd L = true) : (factT kd L).data.toList = kd.data.toList ++ 40 :: (joinV L ++ [41]) := by
  rw [factT_yes h]; simp
theorem factT_inj {kd kd' : ByteArray} {L M : List V3} (h : factB kd L = true) (h' : factB kd' M = true) (e : factT kd L = factT kd' M) : kd = kd' ∧ L = M := by
  have e2 : (factT kd L).data.toList = (factT kd' M).data.toList := by rw [e]
  rw [factT_list h, factT_list h'] at e2
  obtain ⟨n1, -, o1⟩ := factB_open h
  obtain ⟨n2, -, o2⟩ := factB_open h'
  obtain ⟨h1, h2⟩ := cut_inj (s := 40) (fun hc => (nameB_bytes n1 40 hc).2.1 rfl) (fun hc => (nameB_bytes n2 40 hc).2.1 rfl) e2
  exact ⟨ByteArray.ext (Array.toList_inj.1 h1), joinV_inj o1 o2 (List.append_cancel_right h2)⟩
theorem sameF_text {kd kd' : ByteArray} {L M : List V3} (h : factB kd L = true) (h' : factB kd' M = true) : sameF kd L kd' M = decide (factT kd L = factT kd' M) := by
  rw [Bool.eq_iff_iff, decide_eq_true_iff]
  unfold sameF
  rw [Bool.and_eq_true, decide_eq_true_iff, decide_eq_true_iff]
  constructor
  · rintro ⟨rfl, rfl⟩; rfl
  · exact factT_inj h h'
end Go.Proofs.YtaflokfgbmlmaadDoor
/-
  What the tested function answers for a fact's text: factT.
-/
namespace Go.Proofs.YtaflokfgbmlmaadDoor
open Go.RowKit
set_option linter.unusedVariables false

theorem infoS : (Tryd.prog.info? 9).map (fun i => (i.zero, i.size, i.bytes)) = some (some (.string ⟨#[]⟩), 1, 16) := by kernel_rfl
/-- the cells of the texts -/
def cellsT (L : List V3) : List Value := L.map fun v => .string v.tx
theorem cellsT_snoc (L : List V3) (v : V3) : cellsT L ++ [.string v.tx] = cellsT (L ++ [v]) := by simp [cellsT]

def txs (L : List V3) : List ByteArray := L.map V3.tx
theorem txs_join (L : List V3) : Lib.join ((txs L).map (·.data.toList)) (ByteArray.mk #[44]).data.toList = joinV L := by
  unfold txs joinV
  rw [List.map_map]
  rfl
theorem own_txs {W : World} {base g c n : Nat} {L : List V3} (h : W.ownsRow base 9 1 (.slice (some ⟨g, 0, none⟩) n c) n (cellsT L)) :
    ∀ (j : Nat) x, (txs L)[j]? = some x → W.cell? ⟨g, 0 + j, none⟩ = some (.string x) := by
  intro j x hj
  have := h.cells (g := g) rfl j (.string x) (by unfold txs at hj; unfold cellsT; rw [List.getElem?_map] at hj ⊢; cases hq : L[j]? with
    | none => rw [hq] at hj; cases hj
    | some v => rw [hq] at hj; simp at hj ⊢; exact hj)
  rwa [Addr.add_lit] at this
theorem own_lt {W : World} {base g c n : Nat} {T : TypeId} {xs : List Value} (h : W.ownsRow base T 1 (.slice (some ⟨g, 0, none⟩) n c) n xs) : g < W.heap.size ∧ n ≤ c := by
  refine ⟨(h.lt g rfl).2, ?_⟩
  rcases h.2 with ⟨h1, _⟩ | ⟨g', cap', cur, h1, hb', hh, hnc, _⟩
  · simp at h1
  · simp only [Value.slice.injEq] at h1; omega
theorem keepJ {w0 W w' : World} {B g : Nat} {p0 : Addr} {v0 : Value} {xs : List ByteArray} (hb : Below W.heap.size W w')
    (h : W.cell? p0 = some v0 ∧ (∀ (j : Nat) x, xs[j]? = some x → W.cell? ⟨g, 0 + j, none⟩ = some (.string x)) ∧ g < W.heap.size ∧ Below B w0 W ∧ B ≤ W.heap.size) :
    w'.cell? p0 = some v0 ∧ (∀ (j : Nat) x, xs[j]? = some x → w'.cell? ⟨g, 0 + j, none⟩ = some (.string x)) ∧ g < w'.heap.size ∧ Below B w0 w' ∧ B ≤ w'.heap.size := by
  obtain ⟨h0, h1, h2, h3, h4⟩ := h
  have k : ∀ {a : Addr} {v : Value}, W.cell? a = some v → w'.cell? a = some v := fun {a v} h => by rw [hb.cell (World.block_lt_of_cell? W _ h)]; exact h
  exact ⟨k h0, fun j x hj => k (h1 j x hj), Nat.lt_of_lt_of_le h2 hb.size, h3.trans (hb.mono h4), Nat.le_trans h4 hb.size⟩
theorem joinC {w0 W : World} {B g : Nat} {p0 : Addr} {v0 : Value} {xs : List ByteArray}
    (h : W.cell? p0 = some v0 ∧ (∀ (j : Nat) x, xs[j]? = some x → W.cell? ⟨g, 0 + j, none⟩ = some (.string x)) ∧ g < W.heap.size ∧ Below B w0 W ∧ B ≤ W.heap.size) : ∀ (j : Nat) x, xs[j]? = some x → W.cell? ⟨g, 0 + j, none⟩ = some (.string x) := h.2.1
theorem joinL {w0 W : World} {B g : Nat} {p0 : Addr} {v0 : Value} {xs : List ByteArray}
    (h : W.cell? p0 = some v0 ∧ (∀ (j : Nat) x, xs[j]? = some x → W.cell? ⟨g, 0 + j, none⟩ = some (.string x)) ∧ g < W.heap.size ∧ Below B w0 W ∧ B ≤ W.heap.size) : g < W.heap.size := h.2.2.1
theorem belT {w0 W : World} {B : Nat} {p0 p1 : Addr} {v0 v1 : Value} {a : Option Addr} {L : List V3}
    (h : W.cell? p0 = some v0 ∧ W.cell? p1 = some v1 ∧ RdV W a L ∧ Below B w0 W ∧ B ≤ W.heap.size) : Below B w0 W := h.2.2.2.1
theorem ret_str {a b : ByteArray} (h : a = b) : Ending.returned (.string a) = .returned (.string b) := by rw [h]
theorem src1 (W : World) (x : ByteArray) : ∀ j u, ([.string x] : List Value)[j]? = some u → (W.alloc (.cells #[.string x] 9)).cell? ((⟨W.heap.size, 0, none⟩ : Addr).add j) = some u := by
  intro j u hj
  rw [Addr.add_lit, Nat.zero_add]
  have hb : (W.alloc (.cells #[.string x] 9)).heap[W.heap.size]? = some (.cells #[.string x] 9 (0, 0)) := by rw [heap_alloc_new]
  match j, hj with
  | 0, hj => rw [cell_of_row _ _ 0 _ _ (0, 0) hb]; simpa using hj
theorem one1 (x : ByteArray) : ∀ u ∈ ([.string x] : List Value), u.oneCell' = true := by
  intro u hu
  simp only [List.mem_cons, List.not_mem_nil, or_false] at hu
  rw [hu]; rfl

set_option maxRecDepth 100000 in
set_option maxHeartbeats 3200000 in
theorem joinVals_any (a : Option Addr) (cap : Nat) (L : List V3) (sep : ByteArray) (w : World) (hr : RdV w a L) (hs : ∀ v ∈ L, v.S.size ≤ maxLen) (hm : L.length ≤ 5) (ht : Tab w) (hlen : (Lib.join ((txs L).map (·.data.toList)) sep.data.toList).length ≤ 140737488355328) :
    Calls Tryd.prog 86 #[.slice a L.length cap, .func (.func 69) #[] #[], .string sep] w fun e w' =>
      e = .returned (.string ⟨(Lib.join ((txs L).map (·.data.toList)) sep.data.toList).toArray⟩) ∧ Below w.heap.size w w' := by
  obtain ⟨i0, hi, hz0, hz1, hz2⟩ := info_parts infoS
  have HTab := hide ht
  have HS := hide hs
  have HL := hide hlen
  clear ht hs hlen
  obtain ⟨n, hN⟩ : ∃ n, n = L.length := ⟨_, rfl⟩
  rw [← hN] at hm ⊢
  have HN := hide hN
  clear hN
  have hz3 : (i0.bytes * n) = 16 * n := by rw [hz2]
  go_enter Tryd.func86, Tryd.ntmps86
  go_wp2_with (at_make; refine wpList_make_own _ rfl _ _ 92 rfl w.heap.size 9 i0 (.string ⟨#[]⟩) 1 Tryd.underlying92 hi hz0 hz1 _ _ _ n rfl rfl (by omega) ?b2 ?b3 (Nat.le_refl _) ?_)
  case b2 => rw [hz2]; omega
  case b3 => unfold maxLen; omega
  intro w2 ho2 hg2
  have b2 : Below w.heap.size w w2 := below_gn hg2
  clear hg2
  go_wp2
  go_loopw [7, 15] (fun v i wr => ∃ (k g c : Nat), k ≤ n ∧ i = .int .i64 k ∧ v = .slice (some ⟨g, 0, none⟩) k c ∧ wr.ownsRow w.heap.size 9 1 (.slice (some ⟨g, 0, none⟩) k c) k (cellsT (L.take k)) ∧ Below w.heap.size w wr) (fun _ i _ => n - (intOf i).toNat)
  case atStart => exact ⟨0, w.heap.size, n, Nat.zero_le _, rfl, rfl, by rw [List.take_zero]; exact ho2, b2⟩
  case round =>
    clear ho2 b2
    obtain ⟨k, g, c, hk, rfl, rfl, hown, hbel⟩ := hrel
    by_cases hlt : k < n
    · obtain ⟨b, off, hab, hbw, hc⟩ := hr.open (by rw [← HN.out]; omega)
      obtain ⟨c0, c1, c2⟩ := hc k (by rw [← HN.out]; exact hlt)
      clear hc
      subst hab
      rw [← hbel.cell (p := ⟨b, off + k * 3, none⟩) hbw] at c0
      rw [← hbel.cell (p := ⟨b, off + k * 3 + 1, none⟩) hbw] at c1
      rw [← hbel.cell (p := ⟨b, off + k * 3 + 2, none⟩) hbw] at c2
      have HTake : Hid (cellsT (L.take k) ++ [.string (vAt L k).tx] = cellsT (L.take (k + 1))) := by unfold Hid; rw [cellsT_snoc, List.take_succ_eq_append_getElem (by rw [← HN.out]; exact hlt), vAt_in]
      have hS : (vAt L k).S.size ≤ maxLen := by rw [vAt_in (by rw [← HN.out]; exact hlt)]; exact HS.out _ (List.getElem_mem _)
      rw [show (vAt L k).tx = textV (vAt L k).K (vAt L k).N (vAt L k).S from rfl] at HTake
      generalize (vAt L k).K = K at c0 HTake hS
      generalize (vAt L k).N = N at c1 HTake hS
      generalize (vAt L k).S = S at c2 HTake hS
      have bA : Below w.heap.size w (wr.alloc (.cells #[.int .i64 K, .int .i64 N, .string S] 85)) := hbel.alloc hbel.size _
      have hoA := hown.alloc (.cells #[.int .i64 K, .int .i64 N, .string S] 85)
      have HTA : Hid (Tab (wr.alloc (.cells #[.int .i64 K, .int .i64 N, .string S] 85))) := HTab.out.later bA (Nat.le_refl _)
      go_wp2_with fail
      refine (implValText_any K N S _ hS HTA.out).mono ?_
      rintro e w3 ⟨rfl, hb3⟩
      generalize textV K N S = x at HTake
      have bel3 : Below w.heap.size w w3 := bA.trans (hb3.mono bA.size)
      have HO4 := hide ((ownsRow_below hoA hb3).alloc (.cells #[.string x] 9))
      have HB4 := hide (bel3.alloc bel3.size (.cells #[.string x] 9))
      have HSrc := hide (src1 w3 x)
      clear hb3 hbel hown hoA bA HTA c0 c1 c2 bel3
      go_wp2_with (at_builtin; refine wpList_append_lies _ rfl (.tmp 19) (.tmp 23) 92 rfl w.heap.size 9 i0 (.string ⟨#[]⟩) 1 16 Tryd.underlying92 hi hz0 hz1 hz2 rfl (by omega) (.slice (some ⟨g, 0, none⟩) k c) k (cellsT (L.take k)) rfl HO4.out ⟨w3.heap.size, 0, none⟩ 1 1 [.string x] ?hx rfl HSrc.out (one1 x) (by omega) (by unfold maxLen; omega) (by omega) HB4.out.size _ rfl ?_)
      case hx => simp [Act.eval]
      intro g5 c5 w5 ho5 hg5 hat5 hlt5
      have HO5 : Hid (w5.ownsRow w.heap.size 9 1 (.slice (some ⟨g5, 0, none⟩) (k + 1) c5) (k + 1) (cellsT (L.take (k + 1)))) := by
        unfold Hid
        rw [← HTake.out]
        exact ho5
      have HB5 := hide (HB4.out.grown hg5 HB4.out.size (fun k hk => (HO4.out.lt k hk).1))
      clear ho5 hg5 hat5 hlt5 HO4 HSrc HB4
      go_wp2
      go_roundw
      case rel => exact ⟨k + 1, g5, c5, by omega, by go_num, rfl, HO5.out, HB5.out⟩
      case measure => simp [intOf]; omega
    · obtain rfl : k = n := by omega
      have HO : Hid (wr.ownsRow w.heap.size 9 1 (.slice (some ⟨g, 0, none⟩) k c) k (cellsT L)) := by
        have := hown
        rw [HN.out, List.take_length, ← HN.out] at this
        exact this
      have hcs := own_txs HO.out
      obtain ⟨hgl, hkc⟩ := own_lt HO.out
      have htl : (txs L).length = k := by unfold txs; rw [List.length_map, HN.out]
      have hjoin := Tryd.strings_Join g 0 c (txs L) sep wr hcs hgl (by rw [htl]; omega) (by rw [htl]; exact hkc) HL.out
      rw [htl] at hjoin
      clear hown HO
      go_wp2_with fail
      refine hjoin.mono ?_
      rintro e w6 ⟨rfl, hb6⟩
      have B6 : Below w.heap.size w w6 := hbel.trans (hb6.mono hbel.size)
      go_wp2
      go_ret
      exact ⟨rfl, B6⟩

set_option maxRecDepth 100000 in
set_option maxHeartbeats 1600000 in
theorem namedTextV_any (kd : ByteArray) (a : Option Addr) (cap : Nat) (L : List V3) (sep y : ByteArray) (w : World) (hkd : kd.size ≤ 12) (hr : RdV w a L) (hs : ∀ v ∈ L, v.S.size ≤ maxLen) (hm : L.length ≤ 5) (ht : Tab w) (hy : y = ⟨(Lib.join ((txs L).map (·.data.toList)) sep.data.toList).toArray⟩) (hlen : y.size ≤ 1000) :
    Calls Tryd.prog 68 #[.string kd, .slice a L.length cap, .func (.func 69) #[] #[], .string sep] w fun e w' =>
      e = .returned (.string (kd ++ ⟨#[40]⟩ ++ y ++ ⟨#[41]⟩)) ∧ Below w.heap.size w w' := by
  have hl2 : (Lib.join ((txs L).map (·.data.toList)) sep.data.toList).length ≤ 1000 := by
    rw [hy] at hlen
    have h2 : (Lib.join ((txs L).map (·.data.toList)) sep.data.toList).toArray.size ≤ 1000 := hlen
    simpa using h2
  have hj := joinVals_any a cap L sep w hr hs hm ht (by omega)
  rw [← hy] at hj
  have HJ := hide hj
  clear hj hy
  have c40 : (ByteArray.mk #[40]).size = 1 := rfl
  have c41 : (ByteArray.mk #[41]).size = 1 := rfl
  have n0 : ¬ 9223372036854775807 < kd.size + 1 := by omega
  have m0 : kd.size + 1 ≤ 9223372036854775807 := by omega
  have n1 : ¬ 9223372036854775807 < kd.size + 1 + y.size := by omega
  have m1 : kd.size + 1 + y.size ≤ 9223372036854775807 := by omega
  have n2 : ¬ 9223372036854775807 < kd.size + 1 + y.size + 1 := by omega
  have m2 : kd.size + 1 + y.size + 1 ≤ 9223372036854775807 := by omega
  have n4 : ¬ 9223372036854775807 ≤ kd.size := by omega
  have m4 : kd.size < 9223372036854775807 := by omega
  have n5 : ¬ 9223372036854775807 ≤ kd.size + 1 + y.size := by omega
  have m5 : kd.size + 1 + y.size < 9223372036854775807 := by omega
  clear c40 c41
  go_enter Tryd.func68, Tryd.ntmps68
  go_wp2_with fail
  refine HJ.out.mono ?_
  rintro e w6 ⟨rfl, hb6⟩
  go_wp2
  go_ret
  exact ⟨ret_str (by simp only [ByteArray.append_assoc]), hb6⟩

set_option maxRecDepth 100000 in
set_option maxHeartbeats 3200000 in
theorem implFactText_any (kd : ByteArray) (a : Option Addr) (cap : Nat) (L : List V3) (w : World) (hkd : kd.size ≤ maxLen) (hr : RdV w a L) (hs : ∀ v ∈ L, v.S.size ≤ maxLen) (hm : L.length ≤ 1048580) (ht : Tab w) :
    Calls Tryd.prog 43 #[.agg #[.string kd, .slice a L.length cap]] w fun e w' =>
      e = .returned (.string (factT kd L)) ∧ Below w.heap.size w w' := by
  have HTab := hide ht
  have HS := hide hs
  have b0 := below_al w (.cells #[.string kd, .slice a L.length cap] 41)
  have hX := box2_new w (.string kd) (.slice a L.length cap) 41
  clear ht
  go_enter Tryd.func43, Tryd.ntmps43
  go_wp2_with fail
  refine (implFactOk_any kd a cap L _ hkd (hr.below b0) hs hm).mono ?_
  rintro e w1 ⟨rfl, hb1⟩
  have HX := hide (box_below hX hb1 (by simp))
  have hB1 : Below w.heap.size w w1 := b0.trans (hb1.mono b0.size)
  clear hb1 b0 hX hs
  cases hv : factB kd L
  · have HV := hide (factT_no hv)
    clear hv
    go_wp2
    go_ret
    exact ⟨by rw [HV.out]; rfl, hB1⟩
  · obtain ⟨hn, h5, hok⟩ := factB_open hv
    have HV := hide (factT_yes hv)
    have hkn := name_size hn
    have hjn := joinV_le hok
    clear hv hok hn hm
    obtain ⟨y, hy⟩ : ∃ y, y = (⟨(joinV L).toArray⟩ : ByteArray) := ⟨_, rfl⟩
    have hys : y.size ≤ 115 := by
      rw [hy]
      show (joinV L).toArray.size ≤ 115
      simp only [List.size_toArray]
      omega
    rw [← hy] at HV
    have HJ := hide (namedTextV_any kd a cap L ⟨#[44]⟩ y w1 (by omega) (hr.below hB1) HS.out h5 (HTab.out.later hB1 (Nat.le_refl _)) (by rw [txs_join]; exact hy) (by omega))
    obtain ⟨x0, x1, -, -⟩ := box2_cell HX.out
    clear hjn hy HX hr
    go_wp2_with fail
    refine HJ.out.mono ?_
    rintro e w6 ⟨rfl, hb6⟩
    have hB6 : Below w.heap.size w w6 := hB1.trans (hb6.mono hB1.size)
    go_wp2
    go_ret
    exact ⟨ret_str (by rw [HV.out]; simp only [ByteArray.append_assoc]), hB6⟩
end Go.Proofs.YtaflokfgbmlmaadDoor
/-
  The tested program's map of items by their facts' texts: what it has, and how many.
-/
namespace Go.Proofs.YtaflokfgbmlmaadDoor
open Go.RowKit
set_option linter.unusedVariables false

/-- an item in the map reads as its Id -/
def rI (v : Value) : Option (DataW Unit × List MemPlace) := match v with
  | .agg cs => match cs.toList with
    | [.int .i64 id, .string _, .slice _ _ _] => some (.lit (.int .i64 id), [])
    | _ => none
  | _ => none
theorem rI_mk (id : Int) (s : ByteArray) (a : Option Addr) (l c : Nat) : rI (.agg #[.int .i64 id, .string s, .slice a l c]) = some (.lit (.int .i64 id), []) := rfl
/-- what reads so is an item's three cells -/
theorem rI_inv {v : Value} {id : Int} {ps : List MemPlace} (h : rI v = some (.lit (.int .i64 id), ps)) : ∃ s a l c, v = .agg #[.int .i64 id, .string s, .slice a l c] := by
  unfold rI at h
  split at h
  · rename_i cs
    split at h
    · rename_i id' s a l c e
      simp only [Option.some.injEq, Prod.mk.injEq, DataW.lit.injEq, Lit.int.injEq] at h
      obtain ⟨⟨-, rfl⟩, -⟩ := h
      exact ⟨s, a, l, c, by rw [← Array.toList_inj.1 (show cs.toList = (#[.int .i64 _, .string s, .slice a l c] : Array Value).toList from e)]⟩
    · cases h
  · cases h
def It.tx (x : It) : List UInt8 := (factT x.kd x.L).data.toList
/-- no two texts of the first k are the same -/
def Texts (J : List It) (k : Nat) : Prop := ∀ i j, i < j → j < k → (iAt J i).tx ≠ (iAt J j).tx
structure MapOf (J : List It) (k : Nat) (D : DataW Unit) : Prop where
  has : ∀ l : List UInt8, Maps.has D (.string l) = true ↔ ∃ j, j < k ∧ (iAt J j).tx = l
  idAt : Texts J k → ∀ j, j < k → ∀ z, D.atKey (.string (iAt J j).tx) z = .lit (.int .i64 (iAt J j).id)
  le : Maps.size D ≤ k
  all : Maps.size D = k ↔ Texts J k
theorem MapOf.zero (J : List It) : MapOf J 0 (.map []) :=
  ⟨fun l => ⟨fun h => by simp [Maps.has] at h, fun ⟨j, hj, _⟩ => absurd hj (Nat.not_lt_zero _)⟩, fun _ j hj => absurd hj (Nat.not_lt_zero _), Nat.le_refl _, ⟨fun _ i j _ hj => absurd hj (Nat.not_lt_zero _), fun _ => rfl⟩⟩
theorem MapOf.step {J : List It} {k : Nat} {D : DataW Unit} (h : MapOf J k D) (hT : Maps.Tidy D) : MapOf J (k + 1) (D.put (.string (iAt J k).tx) (.lit (.int .i64 (iAt J k).id))) := by
  have hk : WideAt.IsKeyLit (.string (iAt J k).tx) := trivial
  have hnew : Maps.has D (.string (iAt J k).tx) = true ↔ ¬ ∀ j, j < k → (iAt J j).tx ≠ (iAt J k).tx := by
    rw [h.has]
    constructor
    · rintro ⟨j, hj, e⟩ hn; exact hn j hj e
    · intro hn
      by_cases he : ∃ j, j < k ∧ (iAt J j).tx = (iAt J k).tx
      · exact he
      · exact absurd (fun j hj e => he ⟨j, hj, e⟩) hn
  have hsz := Maps.size_put (k := .string (iAt J k).tx) hT (.lit (.int .i64 (iAt J k).id))
  have hle := h.le
  refine ⟨fun l => ?_, fun ht j hj z => ?_, ?_, ?_⟩
  · by_cases e : l = (iAt J k).tx
    · subst e
      rw [Maps.has_put_same hT.isMap hk]
      exact ⟨fun _ => ⟨k, by omega, rfl⟩, fun _ => rfl⟩
    · rw [Maps.has_put_other (by intro h; apply e; injection h), h.has]
      constructor
      · rintro ⟨j, hj, e2⟩; exact ⟨j, by omega, e2⟩
      · rintro ⟨j, hj, e2⟩
        have : j ≠ k := fun e3 => e (by rw [← e2, e3])
        exact ⟨j, by omega, e2⟩
  · by_cases e : j = k
    · subst e; exact Maps.atKey_put_same hT.isMap hk _ _
    · have hjk : (iAt J j).tx ≠ (iAt J k).tx := ht j k (by omega) (by omega)
      rw [Maps.atKey_put_other (by intro h; apply hjk; injection h)]
      exact h.idAt (fun a b hab hb => ht a b hab (by omega)) j (by omega) z
  · rw [hsz]; split <;> omega
  · rw [hsz]
    by_cases hh : Maps.has D (.string (iAt J k).tx) = true
    · rw [if_pos hh]
      constructor
      · intro e; omega
      · intro ht
        exact absurd (fun j hj => ht j k hj (by omega)) (hnew.1 hh)
    · rw [if_neg hh]
      constructor
      · intro e a b hab hb
        by_cases eb : b = k
        · subst eb
          intro e2
          exact hh ((h.has _).2 ⟨a, hab, e2⟩)
        · exact h.all.1 (by omega) a b hab (by omega)
      · intro ht
        have := h.all.2 (fun a b hab hb => ht a b hab (by omega))
        omega
/-- facts that are right are told apart by their texts -/
theorem texts_dist {J : List It} (h : ∀ k, k < J.length → factB (iAt J k).kd (iAt J k).L = true) : Texts J J.length ↔ Dist J := by
  have key : ∀ i j, i < J.length → j < J.length → ((iAt J i).tx = (iAt J j).tx ↔ (iAt J i).same (iAt J j).kd (iAt J j).L = true) := fun i j hi hj => by
    have := sameF_text (h i hi) (h j hj)
    unfold It.same It.tx
    rw [this, decide_eq_true_iff]
    exact ⟨fun e => ByteArray.ext (Array.toList_inj.1 e), fun e => by rw [e]⟩
  constructor
  · intro ht i j hij hj
    have := ht i j hij hj
    rw [Ne, key i j (by omega) hj] at this
    simpa using this
  · intro hd i j hij hj e
    rw [key i j (by omega) hj, hd i j hij hj] at e
    cases e
theorem tx_len {kd : ByteArray} {L : List V3} (h : factB kd L = true) : (factT kd L).size ≤ 200 := by
  obtain ⟨n1, h5, o1⟩ := factB_open h
  have h1 := name_size n1
  have h2 := joinV_le o1
  have e : (factT kd L).size = (factT kd L).data.toList.length := by rw [Array.length_toList]; rfl
  have e2 : kd.data.toList.length = kd.size := by rw [Array.length_toList]; rfl
  rw [e, factT_list h]
  simp only [List.length_append, List.length_cons, List.length_nil]
  omega

theorem lawT : Maps.Keyed Tryd.prog 9 := Maps.string_keyed Tryd.underlying9
theorem run_makeMapN (n : Nat) (W : World) (h : n ≤ 1048580) : (Instr.makeMap 73 (some (.int .i64 (n : Int)))).run Tryd.prog W = .ok (.map (some W.heap.size)) (W.alloc (.map #[] 0)) := by
  simp [Instr.makeMap, run_underlying Tryd.underlying73, asInt, newObj, Result.andThen]
  rfl

theorem box_drw {w w' : World} {R : Nat} {o : Obj} (h : w.heap[R]? = some o) (hb : Below w.drew.heap.size w.drew w') : w'.heap[R]? = some o := box_step (w := w.drew) h hb
theorem ownsMap_below {w w' : World} {B n : Nat} {D : DataW Unit} (h : w.ownsMap Tryd.prog 9 rI B n D) (hb : Below w.heap.size w w') : w'.ownsMap Tryd.prog 9 rI B n D := by
  have hl := h.lt
  obtain ⟨es, c, h1, r⟩ := h
  exact ⟨es, c, by rw [hb.block B hl]; exact h1, r⟩
theorem ownsMap_drew {w w' : World} {B n : Nat} {D : DataW Unit} (h : w.ownsMap Tryd.prog 9 rI B n D) (hb : Below w.drew.heap.size w.drew w') : w'.ownsMap Tryd.prog 9 rI B n D := ownsMap_below (w := w.drew) h hb

set_option maxRecDepth 100000 in
set_option maxHeartbeats 6400000 in
theorem byText_any (a : Option Addr) (n cap : Nat) (J : List It) (w : World) (hr : RdI w a J) (hJ : J.length = n) (hn : n ≤ 1000) (hok : ∀ i, i < J.length → factB (iAt J i).kd (iAt J i).L = true) (hs : ∀ i, i < J.length → okI (iAt J i)) (ht : Tab w) :
    Calls Tryd.prog 42 #[.slice a n cap] w fun e w' => ∃ B D, e = .returned (.map (some B)) ∧ w'.ownsMap Tryd.prog 9 rI B n D ∧ MapOf J n D ∧ Below w.heap.size w w' := by
  have HJ := hide hJ
  have HOk := hide hok
  have HS := hide hs
  have HTab := hide ht
  clear hJ hok hs ht
  have hmm := fun W => run_makeMapN n W (by omega)
  have b0 := below_al w (.map #[] 0)
  have ho0 := World.ownsMap_made w Tryd.prog 9 rI
  have hz0 : w.heap.size < (w.alloc (.map #[] 0)).heap.size := by simp
  go_enter Tryd.func42, Tryd.ntmps42
  go_wp2
  generalize w.alloc (.map #[] 0) = w1 at b0 ho0 hz0 ⊢
  go_loopw [11] (fun i wr => ∃ (k : Nat) (D : DataW Unit), k ≤ n ∧ i = .int .i64 k ∧ wr.ownsMap Tryd.prog 9 rI w.heap.size k D ∧ MapOf J k D ∧ Below w.heap.size w wr ∧ w.heap.size < wr.heap.size) (fun i _ => n - (intOf i).toNat)
  case atStart => exact ⟨0, .map [], Nat.zero_le _, rfl, ho0, MapOf.zero J, b0, hz0⟩
  case round =>
    clear b0 ho0 hz0
    obtain ⟨k, D, hk, rfl, hown, hmap, hbel, hsz⟩ := hrel
    have HMap := hide hmap
    have HOwn := hide hown
    clear hmap hown
    by_cases hlt : k < n
    · obtain ⟨b2, o2, e2, hbw2, hc2⟩ := (hr.below hbel).open (by rw [HJ.out]; omega)
      obtain ⟨c0, c1, c2, hv⟩ := hc2 k (by rw [HJ.out]; exact hlt)
      have HOkk := hide (HOk.out k (by rw [HJ.out]; exact hlt))
      have HSk := hide (HS.out k (by rw [HJ.out]; exact hlt))
      have HStep := hide (HMap.out.step (HOwn.out.tidy lawT))
      clear hc2
      subst e2
      obtain ⟨x, hx⟩ : ∃ x, x = iAt J k := ⟨_, rfl⟩
      rw [← hx] at c0 c1 c2 hv HOkk HSk HStep
      clear hx
      obtain ⟨id, kd, va, vc, L⟩ := x
      simp only [It.tx] at c0 c1 c2 hv HOkk HSk HStep
      have ba := below_al wr (.cells #[.int .i64 id, .string kd, .slice va L.length vc] 54)
      have hBox := box_new wr (.int .i64 id) (.string kd) (.slice va L.length vc) 54
      have hB1 : Below w.heap.size w (wr.alloc (.cells #[.int .i64 id, .string kd, .slice va L.length vc] 54)) := hbel.trans (ba.mono hbel.size)
      have ho1 := ownsMap_below HOwn.out ba
      have hv1 := hv.below ba
      have hz1 : w.heap.size < (wr.alloc (.cells #[.int .i64 id, .string kd, .slice va L.length vc] 54)).heap.size := Nat.lt_of_lt_of_le hsz ba.size
      have hl5 : L.length ≤ 1048580 := by have := (factB_open HOkk.out).2.1; omega
      go_wp2_with fail
      generalize wr.alloc (.cells #[.int .i64 id, .string kd, .slice va L.length vc] 54) = w2 at hBox hB1 ho1 hv1 hz1 ba ⊢
      have HBox := hide hBox
      have HO1 := hide ho1
      obtain ⟨x0, x1, x2, -, -, -⟩ := box_cell hBox
      have hvd : RdV w2.drew va L := hv1.heap rfl
      have htd : Tab w2.drew := HTab.out.later hB1.drew (Nat.le_refl _)
      clear ba hBox ho1 c0 c1 c2 hv hv1
      go_region_with (first | (go_at_call 43; refine (implFactText_any kd va vc L _ HSk.out.1 hvd HSk.out.2.2 hl5 htd).mono ?_; rintro e w3 ⟨rfl, hb3⟩; obtain ⟨y0, y1, y2, -, -, -⟩ := box_cell (box_drw HBox.out hb3); obtain ⟨w4, hrun4, hown4, hg4⟩ := (ownsMap_drew HO1.out hb3).update (t := 73) lawT Tryd.underlying73 (by unfold maxLen; omega) (Go.WideMaps.keyOf_string_mk Tryd.underlying9 (s := factT kd L) (by have := tx_len HOkk.out; unfold maxLen; omega)) (rI_mk id kd va L.length vc)))
      all_goals
        have HOwn4 := hide hown4
        have hb3' : Below w2.heap.size w2 w3 := below_dr hb3
        have B3 : Below w.heap.size w w3 := hB1.trans (hb3'.mono hB1.size)
        have B4 : Below w.heap.size w w4 := B3.grown hg4 B3.size (fun k hk => by cases hk; exact Nat.le_refl _)
        have hz4 : w.heap.size < w4.heap.size := Nat.lt_of_lt_of_le hz1 (Nat.le_trans hb3'.size hg4.size)
        clear hown4 hg4 hrun4 hb3 hb3' y0 y1 y2 x0 x1 x2 B3
        go_wp2
        go_roundw
        case rel => exact ⟨k + 1, _, by omega, by go_num, HOwn4.out, HStep.out, B4, hz4⟩
        case measure => simp [intOf]; omega
    · obtain rfl : k = n := by omega
      go_wp2
      go_ret
      exact ⟨_, D, rfl, HOwn.out, HMap.out, hbel⟩
end Go.Proofs.YtaflokfgbmlmaadDoor
/-
  The map by texts tells the Id that a fact has in a store that is right: what the tested Assert asks it.
-/
namespace Go.Proofs.YtaflokfgbmlmaadDoor
open Go.RowKit
set_option linter.unusedVariables false

theorem map_id {nx : Int} {J : List It} {kd : ByteArray} {M : List V3} {D : DataW Unit} (hs : storeB nx J = true) (hf : factB kd M = true) (hm : MapOf J J.length D) :
    (Maps.has D (.string (factT kd M).data.toList) = true ∧ 0 < idP (J.map It.pl) kd M ∧ ∀ z, D.atKey (.string (factT kd M).data.toList) z = .lit (.int .i64 (idP (J.map It.pl) kd M))) ∨
    (Maps.has D (.string (factT kd M).data.toList) = false ∧ idP (J.map It.pl) kd M = 0) := by
  obtain ⟨-, hok, hd⟩ := storeB_iff.1 hs
  have hT := (texts_dist (fun k hk => (hok k hk).2.2)).2 hd
  cases hh : Maps.has D (.string (factT kd M).data.toList)
  · refine .inr ⟨rfl, idP_none (fun j hj => ?_)⟩
    cases e : (iAt J j).same kd M
    · rfl
    · exfalso
      unfold It.same at e
      rw [sameF_text (hok j hj).2.2 hf, decide_eq_true_iff] at e
      have := (hm.has (factT kd M).data.toList).2 ⟨j, hj, by unfold It.tx; rw [e]⟩
      rw [hh] at this
      cases this
  · obtain ⟨j, hj, e⟩ := (hm.has _).1 hh
    have e2 := factT_inj (hok j hj).2.2 hf (ByteArray.ext (Array.toList_inj.1 e))
    have e3 := idP_own hd hj
    rw [e2.1, e2.2] at e3
    refine .inl ⟨rfl, ?_, fun z => ?_⟩
    · rw [e3]
      have := (ids_up (Nat.le_refl _) hok).1 j hj
      omega
    · rw [e3, ← e]
      exact hm.idAt hT j hj z
theorem rI_shape {v : Value} {y : DataW Unit × List MemPlace} (h : rI v = some y) : ∃ id s a l c, v = .agg #[.int .i64 id, .string s, .slice a l c] := by
  unfold rI at h
  split at h
  · rename_i cs
    split at h
    · rename_i id' s a l c e
      exact ⟨id', s, a, l, c, by rw [← Array.toList_inj.1 (show cs.toList = (#[.int .i64 id', .string s, .slice a l c] : Array Value).toList from e)]⟩
    · cases h
  · cases h
/-- 'there, ok := m[text]': what comes back, and the world stays -/
theorem look_text {W : World} {B n : Nat} {nx : Int} {J : List It} {kd : ByteArray} {M : List V3} {D : DataW Unit} (hz : (zeroValue 54).run Tryd.prog W = .ok (.agg #[.int .i64 0, .string ⟨#[]⟩, .slice none 0 0]) W) (hs : storeB nx J = true) (hf : factB kd M = true) (hm : MapOf J J.length D) (ho : W.ownsMap Tryd.prog 9 rI B n D) :
    (0 < idP (J.map It.pl) kd M ∧ ∃ s a l c, (Instr.lookup 73 (.map (some B)) (.string (factT kd M)) true).run Tryd.prog W = .ok (.tuple #[.agg #[.int .i64 (idP (J.map It.pl) kd M), .string s, .slice a l c], .bool true]) W) ∨
    (idP (J.map It.pl) kd M = 0 ∧ ∃ id s a l c, (Instr.lookup 73 (.map (some B)) (.string (factT kd M)) true).run Tryd.prog W = .ok (.tuple #[.agg #[.int .i64 id, .string s, .slice a l c], .bool false]) W) := by
  obtain ⟨v, ps, hrun, hv⟩ := ho.look_ok (t := 73) lawT Tryd.underlying73 hz (rI_mk 0 ⟨#[]⟩ none 0 0) (Go.WideMaps.keyOf_string_mk Tryd.underlying9 (s := factT kd M) (by have := tx_len hf; unfold maxLen; omega))
  rcases map_id hs hf hm with ⟨h1, h2, h3⟩ | ⟨h1, h2⟩
  · rw [h3] at hv
    obtain ⟨s, a, l, c, rfl⟩ := rI_inv hv
    rw [h1] at hrun
    exact .inl ⟨h2, s, a, l, c, hrun⟩
  · rw [h1] at hrun
    refine .inr ⟨h2, ?_⟩
    obtain ⟨id, s, a, l, c, rfl⟩ : ∃ id s a l c, v = .agg #[.int .i64 id, .string s, .slice a l c] := rI_shape hv
    exact ⟨id, s, a, l, c, hrun⟩
end Go.Proofs.YtaflokfgbmlmaadDoor
/-
  The tested program's copy of a store: its items in a block of the call's own, their lists each in its own.
-/
namespace Go.Proofs.YtaflokfgbmlmaadDoor
open Go.RowKit
set_option linter.unusedVariables false

set_option maxRecDepth 100000 in
set_option maxHeartbeats 3200000 in
theorem copyStore_any (a : Option Addr) (n cap : Nat) (nx : Int) (J : List It) (w : World) (hr : RdI w a J) (hJ : J.length = n) (hn : n ≤ 1048576) (hl : ∀ i, i < J.length → (iAt J i).L.length ≤ 1048580) (hli : ∀ i, i < J.length → LieV (iAt J i).a (iAt J i).L.length (iAt J i).cap) :
    Calls Tryd.prog 40 #[.agg #[.slice a n cap, .int .i64 nx]] w fun e w' =>
      ∃ K g cp, e = .returned (.agg #[.slice (some ⟨g, 0, none⟩) n cp, .int .i64 nx]) ∧ HoldsI w' w.heap.size g cp K ∧ K.map It.pl = J.map It.pl ∧ Below w.heap.size w w' := by
  have b0 := below_al w (.cells #[.slice a n cap, .int .i64 nx] 29)
  have b1 := b0.alloc b0.size (.cells #[.slice none 0 0, .int .i64 0] 29)
  have hX := box_old (box2_new w (.slice a n cap) (.int .i64 nx) 29) (by simp) (.cells #[.slice none 0 0, .int .i64 0] 29)
  have hR := box2_new (w.alloc (.cells #[.slice a n cap, .int .i64 nx] 29)) (.slice none 0 0) (.int .i64 0) 29
  have hz : w.heap.size + 1 + 1 ≤ ((w.alloc (.cells #[.slice a n cap, .int .i64 nx] 29)).alloc (.cells #[.slice none 0 0, .int .i64 0] 29)).heap.size := by simp
  simp only [World.size_alloc] at hX hR
  have HL := hide hl
  have HLi := hide hli
  clear hl hli
  go_enter Tryd.func40, Tryd.ntmps40
  go_wp2_with fail
  generalize (w.alloc (.cells #[.slice a n cap, .int .i64 nx] 29)).alloc (.cells #[.slice none 0 0, .int .i64 0] 29) = w1 at b1 hX hR hz ⊢
  have HX := hide hX
  have HR := hide hR
  obtain ⟨x0, x1, -, -⟩ := box2_cell hX
  have r1d : RdI w1.drew a J := hr.below b1.drew
  clear b0 hX hR hr
  go_region_with (first | (go_at_call 65; refine (copyItems_any a n cap J _ r1d hJ hn HL.out HLi.out).mono ?_; rintro e w2 ⟨K, g, cp, rfl, hv, hpl, hb⟩; obtain ⟨y0, y1, -, -⟩ := box2_cell (box_drew HX.out hb); obtain ⟨z0, z1, zf0, zf1⟩ := box2_cell (box_drew HR.out hb)))
  all_goals
    have hB : Below w.heap.size w w2 := b1.trans ((below_dr hb).mono b1.size)
    have hR2 := box_drew HR.out hb
    go_wp2
    refine box2_post hR2 (fun w4 h4 gr => ?_)
    clear x0 x1 y0 y1 z0 z1 zf0 zf1
    obtain ⟨c0, c1, -, -⟩ := box2_cell h4
    exact bodyPost_ret (v := .agg #[.slice (some ⟨g, 0, none⟩) n cp, .int .i64 nx]) (by simp [results, Tryd.results40, go_sem, c0, c1]) rfl
      ⟨K, g, cp, rfl, (hv.grown gr (by simp; omega)).weaken (by simp; omega), hpl, below_set hB gr (by omega)⟩
end Go.Proofs.YtaflokfgbmlmaadDoor
/-
  What the tested StoreOk answers: storeB.
-/
namespace Go.Proofs.YtaflokfgbmlmaadDoor
open Go.RowKit
set_option linter.unusedVariables false

theorem ok_right {J : List It} {nx : Int} (h0 : 1 ≤ nx ∧ nx ≤ 1000000 ∧ J.length ≤ 40) (h : ∀ k, k < J.length → okAt J nx k) {D : DataW Unit} (hm : MapOf J J.length D) : (((Maps.size D : Nat) : Int) == ((J.length : Nat) : Int)) = storeB nx J := by
  have hd := texts_dist (J := J) (fun k hk => (h k hk).2.2)
  rw [Bool.eq_iff_iff, storeB_iff]
  constructor
  · intro e
    have e2 : Maps.size D = J.length := by have h := beq_iff_eq.1 e; omega
    exact ⟨h0, h, hd.1 (hm.all.1 e2)⟩
  · intro hr
    have : Maps.size D = J.length := hm.all.2 (hd.2 hr.2.2)
    simp [this]

set_option maxRecDepth 100000 in
set_option maxHeartbeats 6400000 in
theorem itemsOk_any (a : Option Addr) (n cap : Nat) (nx : Int) (J : List It) (w : World) (hr : RdI w a J) (hJ : J.length = n) (h0 : 1 ≤ nx ∧ nx ≤ 1000000 ∧ n ≤ 40) (hs : ∀ i, i < J.length → okI (iAt J i)) (hl : ∀ i, i < J.length → (iAt J i).L.length ≤ 1048580) (ht : Tab w) :
    Calls Tryd.prog 34 #[.slice a n cap, .int .i64 nx] w fun e w' => e = .returned (.bool (storeB nx J)) ∧ Below w.heap.size w w' := by
  have HJ := hide hJ
  have HS := hide hs
  have HL := hide hl
  have HTab := hide ht
  have H0 := hide h0
  have hn := h0.2.2
  clear hJ hs hl ht h0
  go_enter Tryd.func34, Tryd.ntmps34
  go_wp2
  go_loopw [5, 10] (fun l i wr => ∃ (k : Nat), k ≤ n ∧ i = .int .i64 k ∧ l = .int .i64 (prevId J k) ∧ (∀ j, j < k → okAt J nx j) ∧ Below w.heap.size w wr) (fun _ i _ => n - (intOf i).toNat)
  case atStart => exact ⟨0, Nat.zero_le _, rfl, rfl, fun j hj => absurd hj (Nat.not_lt_zero _), Below.refl _ _⟩
  case round =>
    obtain ⟨k, hk, rfl, rfl, hok, hbel⟩ := hrel
    have HOk := hide hok
    clear hok
    by_cases hlt : k < n
    · obtain ⟨b2, o2, e2, hbw2, hc2⟩ := (hr.below hbel).open (by rw [HJ.out]; omega)
      obtain ⟨c0, c1, c2, hv⟩ := hc2 k (by rw [HJ.out]; exact hlt)
      have hkJ : k < J.length := by rw [HJ.out]; exact hlt
      have HSk := hide (HS.out k hkJ)
      have HLk := hide (HL.out k hkJ)
      have HW : Hid (¬ okAt J nx k → storeB nx J = false) := wrong_at hkJ
      have HOkk : Hid (prevId J k < (iAt J k).id → (iAt J k).id < nx → factB (iAt J k).kd (iAt J k).L = true → okAt J nx k) := fun h1 h2 h3 => ⟨h1, h2, h3⟩
      have HNo : Hid (¬ (prevId J k < (iAt J k).id ∧ (iAt J k).id < nx ∧ factB (iAt J k).kd (iAt J k).L = true) → ¬ okAt J nx k) := fun h1 h2 => h1 h2
      have HPrev : Hid (prevId J (k + 1) = (iAt J k).id) := by unfold Hid prevId; rw [if_neg (by omega)]; rfl
      clear hc2 hkJ
      subst e2
      obtain ⟨p, hp⟩ : ∃ p, p = prevId J k := ⟨_, rfl⟩
      rw [← hp] at HOkk HNo ⊢
      clear hp
      generalize iAt J k = x at c0 c1 c2 hv HSk HLk HOkk HNo HPrev
      obtain ⟨id, kd, va, vc, L⟩ := x
      simp only at c0 c1 c2 hv HSk HLk HOkk HNo HPrev
      have ba := below_al wr (.cells #[.int .i64 id, .string kd, .slice va L.length vc] 54)
      have HBox := hide (box_new wr (.int .i64 id) (.string kd) (.slice va L.length vc) 54)
      have hB1 : Below w.heap.size w (wr.alloc (.cells #[.int .i64 id, .string kd, .slice va L.length vc] 54)) := hbel.trans (ba.mono hbel.size)
      by_cases h1 : id ≤ p
      · have HF := hide (HW.out (HNo.out (fun h => by omega)))
        go_wp2
        go_ret
        exact ⟨ret_bool HF.out.symm, hB1⟩
      · by_cases h2 : nx ≤ id
        · have HF := hide (HW.out (HNo.out (fun h => by omega)))
          go_wp2
          go_ret
          exact ⟨ret_bool HF.out.symm, hB1⟩
        · go_wp2_with fail
          refine (implFactOk_any kd va vc L _ HSk.out.1 (hv.below ba) HSk.out.2.2 HLk.out).mono ?_
          rintro e w2 ⟨rfl, hb2⟩
          have hB2 : Below w.heap.size w w2 := hB1.trans (hb2.mono hB1.size)
          obtain ⟨y0, -, -, -, -, -⟩ := box_cell (box_below HBox.out hb2 (by simp))
          clear hb2 ba hB1 c0 c1 c2 hv
          cases hf : factB kd L
          · have HF := hide (HW.out (HNo.out (fun h => by rw [hf] at h; exact absurd h.2.2 (by simp))))
            clear hf
            go_wp2
            go_ret
            exact ⟨ret_bool HF.out.symm, hB2⟩
          · have HO2 := hide (HOkk.out (by omega) (by omega) hf)
            clear hf
            go_wp2
            go_roundw
            case rel => exact ⟨k + 1, by omega, by go_num, by rw [HPrev.out], fun j hj => by
              by_cases hjk : j = k
              · rw [hjk]; exact HO2.out
              · exact HOk.out j (by omega), hB2⟩
            case measure => simp [intOf]; omega
    · obtain rfl : k = n := by omega
      have HAll : Hid (∀ j, j < J.length → okAt J nx j) := fun j hj => HOk.out j (by rw [HJ.out] at hj; exact hj)
      have hr2 := hr.below hbel
      have ht2 := HTab.out.later hbel (Nat.le_refl _)
      go_wp2_with fail
      refine (byText_any a k cap J wr hr2 HJ.out (by omega) (fun i hi => (HAll.out i hi).2.2) HS.out ht2).mono ?_
      rintro e w2 ⟨B, D, rfl, hown, hmap, hb2⟩
      have hB2 : Below w.heap.size w w2 := hbel.trans (hb2.mono hbel.size)
      have HR : Hid ((((Maps.size D : Nat) : Int) == ((k : Nat) : Int)) = storeB nx J) := by
        have := HJ.out
        unfold Hid
        rw [← this] at hmap ⊢
        exact ok_right (by rw [this]; exact H0.out) HAll.out hmap
      have hlen := fun ty => hown.len (t := 73) Tryd.underlying73 ty
      clear hmap hown hb2
      go_wp2
      go_ret
      exact ⟨ret_bool HR.out, hB2⟩

set_option maxRecDepth 100000 in
set_option maxHeartbeats 6400000 in
theorem implStoreOk_any (a : Option Addr) (n cap : Nat) (nx : Int) (J : List It) (w : World) (hr : RdI w a J) (hJ : J.length = n) (hn : n ≤ 1048580) (hs : ∀ i, i < J.length → okI (iAt J i)) (hl : ∀ i, i < J.length → (iAt J i).L.length ≤ 1048580) (ht : Tab w) :
    Calls Tryd.prog 10 #[.agg #[.slice a n cap, .int .i64 nx]] w fun e w' => e = .returned (.bool (storeB nx J)) ∧ Below w.heap.size w w' := by
  have b0 := below_al w (.cells #[.slice a n cap, .int .i64 nx] 29)
  have HNo : Hid (¬ (1 ≤ nx ∧ nx ≤ 1000000 ∧ n ≤ 40) → storeB nx J = false) := fun h => storeB_no (fun hr => h (by rw [← hJ]; exact hr.1))
  by_cases h1 : 1 ≤ nx
  · by_cases h2 : nx ≤ 1000000
    · by_cases h3 : n ≤ 40
      · obtain ⟨r, hR⟩ : ∃ r, storeB nx J = r := ⟨_, rfl⟩
        have HR := hide hR
        clear hR
        go_enter Tryd.func10, Tryd.ntmps10
        go_wp2_with fail
        refine (itemsOk_any a n cap nx J _ (hr.below b0) hJ ⟨h1, h2, h3⟩ hs hl (ht.later b0 (Nat.le_refl _))).mono ?_
        rw [HR.out]
        rintro e w1 ⟨rfl, hb⟩
        have hB : Below w.heap.size w w1 := b0.trans (hb.mono b0.size)
        go_wp2
        go_ret
        exact ⟨ret_bool HR.out.symm, hB⟩
      · have HF := hide (HNo.out (by omega))
        have h4 : ¬ ((n : Int) ≤ 40) := by omega
        go_enter Tryd.func10, Tryd.ntmps10
        go_wp2
        go_ret
        exact ⟨ret_bool HF.out.symm, b0⟩
    · have HF := hide (HNo.out (by omega))
      go_enter Tryd.func10, Tryd.ntmps10
      go_wp2
      go_ret
      exact ⟨ret_bool HF.out.symm, b0⟩
  · have HF := hide (HNo.out (by omega))
    go_enter Tryd.func10, Tryd.ntmps10
    go_wp2
    go_ret
    exact ⟨ret_bool HF.out.symm, b0⟩
end Go.Proofs.YtaflokfgbmlmaadDoor
/-
  What the tested Assert answers: as the model's.
-/
namespace Go.Proofs.YtaflokfgbmlmaadDoor
open Go.RowKit
set_option linter.unusedVariables false

theorem box2_post_drew {P : Program} {f : Func} {Q : Ending → World → Prop} {x : Exit} {act : Act} {w : World} {q : Nat} {c0 c1 a b : Value} {T : TypeId} (h : w.heap[q]? = some (.cells #[c0, c1] T (0, 0)))
    (k : ∀ w2, w2.heap[q]? = some (.cells #[a, b] T (0, 0)) → w.grownBy w2 (some q) → bodyPost P f Q x act w2) :
    bodyPost P f Q x act ((w.setCell ⟨q, 0, none⟩ a).setCell ⟨q, 1, none⟩ b) :=
  k _ (box2_set h a b).1 (box2_set h a b).2
theorem cell_gr {w w' : World} {q x o : Nat} {v : Value} (hg : w.grownBy w' (some q)) (hc : w.cell? ⟨x, o, none⟩ = some v) (hx : x ≠ q) : w'.cell? ⟨x, o, none⟩ = some v := by
  rw [World.cell?_of_block (hg.block x (World.block_lt_of_cell? w _ hc) (fun e => hx (Option.some.inj e)))]; exact hc
theorem zItem (W : World) : (zeroValue 54).run Tryd.prog W = .ok (.agg #[.int .i64 0, .string ⟨#[]⟩, .slice none 0 0]) W := by kernel_rfl

set_option maxRecDepth 100000 in
set_option maxHeartbeats 12800000 in
theorem implAssert_any (a b : Option Addr) (n cap cb : Nat) (nx : Int) (kd : ByteArray) (J : List It) (M : List V3) (w : World) (hr : RdI w a J) (hJ : J.length = n) (hn : n ≤ 1048576) (hs : ∀ i, i < J.length → okI (iAt J i)) (hl : ∀ i, i < J.length → (iAt J i).L.length ≤ 1048580) (hli : ∀ i, i < J.length → LieV (iAt J i).a (iAt J i).L.length (iAt J i).cap)
    (hq : RdV w b M) (hkd : kd.size ≤ maxLen) (hsM : ∀ v ∈ M, v.S.size ≤ maxLen) (hm : M.length ≤ 1048580) (hlM : LieV b M.length cb) (ht : Tab w) :
    Calls Tryd.prog 15 #[.agg #[.slice a n cap, .int .i64 nx], .agg #[.string kd, .slice b M.length cb]] w fun e w' =>
      ∃ g vc K, e = .returned (.tuple #[.agg #[.slice (some ⟨g, 0, none⟩) K.length vc, .int .i64 (asR nx J kd M).2.1], .int .i64 (asR nx J kd M).1, .bool (decide (0 < (asR nx J kd M).1))]) ∧ HV w' w.heap.size K.length (some ⟨g, 0, none⟩) vc K ∧ K.map It.pl = (asR nx J kd M).2.2 ∧ Below w.heap.size w w' := by
  have HJ := hide hJ
  have HL := hide hl
  have HS := hide hs
  have HSM := hide hsM
  have HLi := hide hli
  have HTab := hide ht
  clear hJ hl hs hsM hli ht
  have b0 := below_al w (.cells #[.slice a n cap, .int .i64 nx] 29)
  have b1 := b0.alloc b0.size (.cells #[.string kd, .slice b M.length cb] 41)
  have b2 := b1.alloc b1.size (.cells #[.slice none 0 0, .int .i64 0] 29)
  have hA := box_old (box_old (box2_new w (.slice a n cap) (.int .i64 nx) 29) (by simp) (.cells #[.string kd, .slice b M.length cb] 41)) (by simp; omega) (.cells #[.slice none 0 0, .int .i64 0] 29)
  have hF := box_old (box2_new (w.alloc (.cells #[.slice a n cap, .int .i64 nx] 29)) (.string kd) (.slice b M.length cb) 41) (by simp) (.cells #[.slice none 0 0, .int .i64 0] 29)
  have hR := box2_new ((w.alloc (.cells #[.slice a n cap, .int .i64 nx] 29)).alloc (.cells #[.string kd, .slice b M.length cb] 41)) (.slice none 0 0) (.int .i64 0) 29
  simp only [World.size_alloc] at hA hF hR
  go_enter Tryd.func15, Tryd.ntmps15
  go_wp2_with fail
  generalize ((w.alloc (.cells #[.slice a n cap, .int .i64 nx] 29)).alloc (.cells #[.string kd, .slice b M.length cb] 41)).alloc (.cells #[.slice none 0 0, .int .i64 0] 29) = w0 at b2 hA hF hR ⊢
  clear b0 b1
  have hr0 := hr.below b2
  have hq0 := hq.below b2
  refine (copyStore_any a n cap nx J _ hr0 HJ.out hn HL.out HLi.out).mono ?_
  rintro e w1 ⟨K, g, vc, rfl, hH1, hpl, hb1⟩
  have HPl := hide hpl
  have HKn : Hid (K.length = n) := by unfold Hid; rw [plK_len HPl.out, HJ.out]
  have ba := below_al w1 (.cells #[.slice (some ⟨g, 0, none⟩) n vc, .int .i64 nx] 29)
  have hP2 := box2_new w1 (.slice (some ⟨g, 0, none⟩) n vc) (.int .i64 nx) 29
  have hb2 := hb1.trans (ba.mono hb1.size)
  have hA2 := box_step hA hb2
  have hF2 := box_step hF hb2
  have hR2 := box_step hR hb2
  have hV1 : HV w1 w0.heap.size n (some ⟨g, 0, none⟩) vc K := .inr ⟨g, rfl, hH1⟩
  have hV2 := hV1.later ba
  have hr2 := hr0.below hb2
  have hq2 := hq0.below hb2
  have hB2 : Below w.heap.size w _ := b2.trans (hb2.mono b2.size)
  have hlo : w.heap.size + 1 + 1 + 1 ≤ w0.heap.size := (Array.getElem?_eq_some_iff.1 hR).1
  have hw1 := hb1.size
  clear hpl hV1 hH1
  obtain ⟨x0, x1, -, -⟩ := box2_cell hA2
  go_wp2_with fail
  generalize w1.alloc (.cells #[.slice (some ⟨g, 0, none⟩) n vc, .int .i64 nx] 29) = w2 at ba hP2 hb2 hA2 hF2 hR2 hV2 hr2 hq2 hB2 ⊢
  clear x0 x1
  refine (implStoreOk_any a n cap nx J _ hr2 HJ.out (by omega) HS.out HL.out (HTab.out.later hB2 (Nat.le_refl _))).mono ?_
  rintro e w3 ⟨rfl, hb3⟩
  have hP3 := box_step hP2 hb3
  have hA3 := box_step hA2 hb3
  have hF3 := box_step hF2 hb3
  have hR3 := box_step hR2 hb3
  have hV3 := hV2.later hb3
  have hr3 := hr2.below hb3
  have hq3 := hq2.below hb3
  have hB3 := hB2.trans (hb3.mono hB2.size)
  have hl3 : w0.heap.size ≤ w3.heap.size := Nat.le_trans hb2.size hb3.size
  clear hA2 hP2 hF2 hR2 hV2 hq2 hB2 hr2 hb3 ba hb2 hb1 hq0 hr0 hA hF hR b2
  obtain ⟨sb, hsb⟩ : ∃ sb, storeB nx J = sb := ⟨_, rfl⟩
  have HSb := hide hsb
  rw [hsb]
  clear hsb
  obtain ⟨p0, p1, -, -⟩ := box2_cell hP3
  obtain ⟨r0, r1, rf0, rf1⟩ := box2_cell hR3
  obtain ⟨f0, f1, -, -⟩ := box2_cell hF3
  cases sb
  · have HA : Hid (asR nx J kd M = (0, nx, J.map It.pl)) := by unfold Hid asR; rw [HSb.out]; simp
    go_wp2
    refine box2_post hR3 (fun w4 h4 gr => ?_)
    clear p0 p1 r0 r1 rf0 rf1 f0 f1
    obtain ⟨d0, d1, -, -⟩ := box2_cell h4
    exact bodyPost_ret (v := .tuple #[.agg #[.slice (some ⟨g, 0, none⟩) n vc, .int .i64 nx], .int .i64 0, .bool false]) (by simp [results, Tryd.results15, go_sem, d0, d1]) rfl
      ⟨_, vc, K, by rw [HA.out, HKn.out]; rfl, by rw [HKn.out]; exact (hV3.grown gr (by omega)).weaken (by omega), by rw [HA.out]; exact HPl.out, below_set hB3 gr (by omega)⟩
  · have hnx := (storeB_iff.1 HSb.out).1
    go_wp2_with fail
    refine (implFactOk_any kd b cb M _ hkd hq3 HSM.out hm).mono ?_
    rintro e w4 ⟨rfl, hb4⟩
    have hP4 := box_step hP3 hb4
    have hA4 := box_step hA3 hb4
    have hF4 := box_step hF3 hb4
    have hR4 := box_step hR3 hb4
    have hV4 := hV3.later hb4
    have hr4 := hr3.below hb4
    have hq4 := hq3.below hb4
    have hB4 := hB3.trans (hb4.mono hB3.size)
    have hl4 : w0.heap.size ≤ w4.heap.size := Nat.le_trans hl3 hb4.size
    clear p0 p1 r0 r1 rf0 rf1 f0 f1 hP3 hA3 hF3 hR3 hV3 hr3 hq3 hB3 hb4 hl3
    obtain ⟨fb, hfb⟩ : ∃ fb, factB kd M = fb := ⟨_, rfl⟩
    have HFb := hide hfb
    rw [hfb]
    clear hfb
    obtain ⟨p0, p1, -, -⟩ := box2_cell hP4
    obtain ⟨r0, r1, rf0, rf1⟩ := box2_cell hR4
    obtain ⟨f0, f1, -, -⟩ := box2_cell hF4
    cases fb
    · have HA : Hid (asR nx J kd M = (0, nx, J.map It.pl)) := by unfold Hid asR; rw [HFb.out]; simp
      go_wp2
      refine box2_post hR4 (fun w5 h5 gr => ?_)
      clear p0 p1 r0 r1 rf0 rf1 f0 f1
      obtain ⟨d0, d1, -, -⟩ := box2_cell h5
      exact bodyPost_ret (v := .tuple #[.agg #[.slice (some ⟨g, 0, none⟩) n vc, .int .i64 nx], .int .i64 0, .bool false]) (by simp [results, Tryd.results15, go_sem, d0, d1]) rfl
        ⟨_, vc, K, by rw [HA.out, HKn.out]; rfl, by rw [HKn.out]; exact (hV4.grown gr (by omega)).weaken (by omega), by rw [HA.out]; exact HPl.out, below_set hB4 gr (by omega)⟩
    · have HA : Hid (asR nx J kd M = assP (J.map It.pl) nx kd M) := by unfold Hid asR; rw [HSb.out, HFb.out]; simp
      clear p0 p1 r0 r1 rf0 rf1 f0 f1
      have HOk : Hid (∀ i, i < J.length → factB (iAt J i).kd (iAt J i).L = true) := fun i hi => ((storeB_iff.1 HSb.out).2.1 i hi).2.2
      have s4 : ∀ {W : World}, Below w4.heap.size w4 W → W.cell? ⟨w.heap.size, 0, none⟩ = some (.slice a n cap) ∧ W.cell? ⟨w.heap.size + 1, 0, none⟩ = some (.string kd) ∧ W.cell? ⟨w.heap.size + 1, 1, none⟩ = some (.slice b M.length cb) := fun {W} h =>
        ⟨(box2_cell (box_step hA4 h)).1, (box2_cell (box_step hF4 h)).1, (box2_cell (box_step hF4 h)).2.1⟩
      have hn40 : n ≤ 40 := by rw [← HJ.out]; exact hnx.2.2
      have B0 : Below w4.heap.size w4 w4 := Below.refl _ _
      go_upto_region 4 with fail
      go_cut [8, 9] (fun i8 i9 W => ∃ X, i8 = .pointer (some ⟨X, 0, none⟩) ∧ i9 = .bool (decide (0 < idP (J.map It.pl) kd M)) ∧ w4.heap.size ≤ X ∧ (0 < idP (J.map It.pl) kd M → W.cell? ⟨X, 0, none⟩ = some (.int .i64 (idP (J.map It.pl) kd M))) ∧ Below w4.heap.size w4 W)
      case first =>
        refine wp_region_held_drew (S := fun W => W.cell? ⟨w.heap.size, 0, none⟩ = some (.slice a n cap) ∧ W.cell? ⟨w.heap.size + 1, 0, none⟩ = some (.string kd) ∧ W.cell? ⟨w.heap.size + 1, 1, none⟩ = some (.slice b M.length cb)) (by kernel_rfl) (s4 B0.drew) (fun hHeld => ?_)
        refine wpAnyH_take (i := 0) (oi := Oper.mk (some 22) _ _ _ _ _) (v := ?v1) rfl (by kernel_rfl) (by kernel_rfl) (by kernel_rfl) (fun _ _ _ h => h) (Or.inl ⟨by rfl, ?y1⟩) hHeld ?r1
        case y1 => (intro W hSW; obtain ⟨q0, q1, q2⟩ := hSW; go_simp; try with_reducible rfl)
        simp only [Act.put, List.setIfInBounds_toArray, List.set_cons_zero, List.set_cons_succ]
        refine wpAnyH_take (i := 1) (oi := Oper.mk (some 23) _ _ _ _ _) (v := ?v2) rfl (by kernel_rfl) (by kernel_rfl) (by kernel_rfl) (fun _ _ _ h => h) (Or.inl ⟨by rfl, ?y2⟩) hHeld ?r2
        case y2 => (intro W hSW; obtain ⟨q0, q1, q2⟩ := hSW; go_simp; try with_reducible rfl)
        simp only [Act.put, List.setIfInBounds_toArray, List.set_cons_zero, List.set_cons_succ]
        refine wpAnyH_take (i := 3) (oi := Oper.mk (some 25) _ _ _ _ _) (v := ?v3) rfl (by kernel_rfl) (by kernel_rfl) (by kernel_rfl) (fun _ _ _ h => h) (Or.inl ⟨by rfl, ?y3⟩) hHeld ?r3
        case y3 => (intro W hSW; obtain ⟨q0, q1, q2⟩ := hSW; go_simp; try with_reducible rfl)
        simp only [Act.put, List.setIfInBounds_toArray, List.set_cons_zero, List.set_cons_succ]
        refine wpAnyH_ready (rs := [2, 9]) (by kernel_rfl) (by simp) (AllReadyH.cons (o := Oper.mk (some 24) _ _ _ _ _) rfl (fun Kk hK => ?_) (AllReadyH.cons (o := Oper.mk (some 8) _ _ _ _ _) rfl (fun Kk hK => ?_) AllReadyH.nil))
        · go_simp
          refine (byText_any a n cap J _ (hr4.below B0.drew) HJ.out (by omega) HOk.out HS.out (HTab.out.later (hB4.trans (B0.drew.mono hB4.size)) (Nat.le_refl _))).mono ?_
          rintro e w11 ⟨Bm, D, rfl, om1, hmp, hb1⟩
          have B1 : Below w4.heap.size w4 w11 := B0.drew.trans (hb1.mono B0.drew.size)
          refine hK.out _ _ (s4 B1) (fun hHeld => ?_)
          clear hK Kk
          refine wpAnyH_ready (rs := [4, 9]) (by kernel_rfl) (by simp) (AllReadyH.cons (o := Oper.mk (some 26) _ _ _ _ _) rfl (fun Kk hK => ?_) (AllReadyH.cons (o := Oper.mk (some 8) _ _ _ _ _) rfl (fun Kk hK => ?_) AllReadyH.nil))
          · go_simp
            refine (implFactText_any kd b cb M _ hkd (hq4.below B1) HSM.out hm (HTab.out.later (hB4.trans (B1.mono hB4.size)) (Nat.le_refl _))).mono ?_
            rintro e w12 ⟨rfl, hb2⟩
            have B2 : Below w4.heap.size w4 w12 := B1.trans (hb2.mono B1.size)
            have om2 := ownsMap_below om1 hb2
            refine hK.out _ _ (s4 B2) (fun hHeld => ?_)
            clear hK Kk
            refine wpAnyH_ready (rs := [5, 9]) (by kernel_rfl) (by simp) (AllReadyH.cons (o := Oper.mk (some 27) _ _ _ _ _) rfl (fun Kk hK => ?_) (AllReadyH.cons (o := Oper.mk (some 8) _ _ _ _ _) rfl (fun Kk hK => ?_) AllReadyH.nil))
            · rcases look_text (zItem _) HSb.out HFb.out (by rw [HJ.out]; exact hmp) om2 with ⟨h0, ls, la, ll, lc, hrun⟩ | ⟨h0, lid, ls, la, ll, lc, hrun⟩
              · go_simp
                refine hK.out _ _ (s4 B2) (fun hHeld => ?_)
                clear hK Kk
                refine wpAnyH_take (i := 6) (oi := Oper.mk (some 21) _ _ _ _ _) (v := ?v4) rfl (by kernel_rfl) (by kernel_rfl) (by kernel_rfl) (fun _ _ _ h => h) (Or.inl ⟨by rfl, ?y4⟩) hHeld ?r4
                case y4 => (intro W hSW; obtain ⟨q0, q1, q2⟩ := hSW; go_simp; try with_reducible rfl)
                simp only [Act.put, List.setIfInBounds_toArray, List.set_cons_zero, List.set_cons_succ]
                refine wpAnyH_take (i := 7) (oi := Oper.mk (some 28) _ _ _ _ _) (v := ?v5) rfl (by kernel_rfl) (by kernel_rfl) (by kernel_rfl) (fun _ _ _ h => h) (Or.inl ⟨by rfl, ?y5⟩) hHeld ?r5
                case y5 => (intro W hSW; obtain ⟨q0, q1, q2⟩ := hSW; go_simp; try with_reducible rfl)
                simp only [Act.put, List.setIfInBounds_toArray, List.set_cons_zero, List.set_cons_succ]
                refine wpAnyH_take (i := 8) (oi := Oper.mk (some 29) _ _ _ _ _) (v := ?v6) rfl (by kernel_rfl) (by kernel_rfl) (by kernel_rfl) (fun _ _ _ h => h) (Or.inl ⟨by rfl, ?y6⟩) hHeld ?r6
                case y6 => (intro W hSW; obtain ⟨q0, q1, q2⟩ := hSW; go_simp; try with_reducible rfl)
                simp only [Act.put, List.setIfInBounds_toArray, List.set_cons_zero, List.set_cons_succ]
                refine wpAnyH_ready (rs := [9]) (by kernel_rfl) (by simp) (AllReadyH.cons (o := Oper.mk (some 8) _ _ _ _ _) rfl (fun Kk hK => ?_) AllReadyH.nil)
                have B3 := B2.alloc B2.size (.cells #[.int .i64 0, .string ⟨#[]⟩, .slice none 0 0] 54)
                have X3 := box_new w12 (.int .i64 0) (.string ⟨#[]⟩) (.slice none 0 0) 54
                have om3 := ownsMap_below om2 (below_al w12 (.cells #[.int .i64 0, .string ⟨#[]⟩, .slice none 0 0] 54))
                have hX3 : w4.heap.size ≤ w12.heap.size := B2.size
                go_simp
                refine hK.out _ _ (s4 B3) (fun hHeld => ?_)
                clear hK Kk
                refine wpAnyH_ready (rs := [10]) (by kernel_rfl) (by simp) (AllReadyH.cons (o := Oper.mk none _ _ _ _ _) rfl (fun Kk hK => ?_) AllReadyH.nil)
                have Be := B2.alloc B2.size (.cells #[.int .i64 (idP (J.map It.pl) kd M), .string ls, .slice la ll lc] 54)
                have ce := (box_cell (box_new w12 (.int .i64 (idP (J.map It.pl) kd M)) (.string ls) (.slice la ll lc) 54)).1
                go_simp
                refine hK.out _ _ (s4 Be) (fun hHeld => ?_)
                clear hK Kk
                refine wpAnyH_take (i := 11) (oi := Oper.mk (some 9) _ _ _ _ _) (v := ?v7) rfl (by kernel_rfl) (by kernel_rfl) (by kernel_rfl) (fun _ _ _ h => h) (Or.inl ⟨by rfl, ?y7⟩) hHeld ?r7
                case y7 => (intro W hSW; obtain ⟨q0, q1, q2⟩ := hSW; go_simp; try with_reducible rfl)
                simp only [Act.put, List.setIfInBounds_toArray, List.set_cons_zero, List.set_cons_succ]
                refine wpAnyH_done (by kernel_rfl) ?_ _
                clear hHeld
                go_wp2_with fail
                go_meet
                exact ⟨_, rfl, by first | rfl | (congr 1; symm; simp; omega), hX3, fun _ => ce, Be⟩
              · go_simp
                refine hK.out _ _ (s4 B2) (fun hHeld => ?_)
                clear hK Kk
                refine wpAnyH_take (i := 6) (oi := Oper.mk (some 21) _ _ _ _ _) (v := ?v8) rfl (by kernel_rfl) (by kernel_rfl) (by kernel_rfl) (fun _ _ _ h => h) (Or.inl ⟨by rfl, ?y8⟩) hHeld ?r8
                case y8 => (intro W hSW; obtain ⟨q0, q1, q2⟩ := hSW; go_simp; try with_reducible rfl)
                simp only [Act.put, List.setIfInBounds_toArray, List.set_cons_zero, List.set_cons_succ]
                refine wpAnyH_take (i := 7) (oi := Oper.mk (some 28) _ _ _ _ _) (v := ?v9) rfl (by kernel_rfl) (by kernel_rfl) (by kernel_rfl) (fun _ _ _ h => h) (Or.inl ⟨by rfl, ?y9⟩) hHeld ?r9
                case y9 => (intro W hSW; obtain ⟨q0, q1, q2⟩ := hSW; go_simp; try with_reducible rfl)
                simp only [Act.put, List.setIfInBounds_toArray, List.set_cons_zero, List.set_cons_succ]
                refine wpAnyH_take (i := 8) (oi := Oper.mk (some 29) _ _ _ _ _) (v := ?v10) rfl (by kernel_rfl) (by kernel_rfl) (by kernel_rfl) (fun _ _ _ h => h) (Or.inl ⟨by rfl, ?y10⟩) hHeld ?r10
                case y10 => (intro W hSW; obtain ⟨q0, q1, q2⟩ := hSW; go_simp; try with_reducible rfl)
                simp only [Act.put, List.setIfInBounds_toArray, List.set_cons_zero, List.set_cons_succ]
                refine wpAnyH_ready (rs := [9]) (by kernel_rfl) (by simp) (AllReadyH.cons (o := Oper.mk (some 8) _ _ _ _ _) rfl (fun Kk hK => ?_) AllReadyH.nil)
                have B3 := B2.alloc B2.size (.cells #[.int .i64 0, .string ⟨#[]⟩, .slice none 0 0] 54)
                have X3 := box_new w12 (.int .i64 0) (.string ⟨#[]⟩) (.slice none 0 0) 54
                have om3 := ownsMap_below om2 (below_al w12 (.cells #[.int .i64 0, .string ⟨#[]⟩, .slice none 0 0] 54))
                have hX3 : w4.heap.size ≤ w12.heap.size := B2.size
                go_simp
                refine hK.out _ _ (s4 B3) (fun hHeld => ?_)
                clear hK Kk
                refine wpAnyH_ready (rs := [10]) (by kernel_rfl) (by simp) (AllReadyH.cons (o := Oper.mk none _ _ _ _ _) rfl (fun Kk hK => ?_) AllReadyH.nil)
                have Be := B2.alloc B2.size (.cells #[.int .i64 lid, .string ls, .slice la ll lc] 54)
                have ce := (box_cell (box_new w12 (.int .i64 lid) (.string ls) (.slice la ll lc) 54)).1
                go_simp
                refine hK.out _ _ (s4 Be) (fun hHeld => ?_)
                clear hK Kk
                refine wpAnyH_take (i := 11) (oi := Oper.mk (some 9) _ _ _ _ _) (v := ?v11) rfl (by kernel_rfl) (by kernel_rfl) (by kernel_rfl) (fun _ _ _ h => h) (Or.inl ⟨by rfl, ?y11⟩) hHeld ?r11
                case y11 => (intro W hSW; obtain ⟨q0, q1, q2⟩ := hSW; go_simp; try with_reducible rfl)
                simp only [Act.put, List.setIfInBounds_toArray, List.set_cons_zero, List.set_cons_succ]
                refine wpAnyH_done (by kernel_rfl) ?_ _
                clear hHeld
                go_wp2_with fail
                go_meet
                exact ⟨_, rfl, by first | rfl | (congr 1; symm; simp; omega), hX3, fun h => by omega, Be⟩
            · have B3 := B2.alloc B2.size (.cells #[.int .i64 0, .string ⟨#[]⟩, .slice none 0 0] 54)
              have X3 := box_new w12 (.int .i64 0) (.string ⟨#[]⟩) (.slice none 0 0) 54
              have om3 := ownsMap_below om2 (below_al w12 (.cells #[.int .i64 0, .string ⟨#[]⟩, .slice none 0 0] 54))
              have hX3 : w4.heap.size ≤ w12.heap.size := B2.size
              go_simp
              refine hK.out _ _ (s4 B3) (fun hHeld => ?_)
              clear hK Kk
              refine wpAnyH_ready (rs := [5]) (by kernel_rfl) (by simp) (AllReadyH.cons (o := Oper.mk (some 27) _ _ _ _ _) rfl (fun Kk hK => ?_) AllReadyH.nil)
              rcases look_text (zItem _) HSb.out HFb.out (by rw [HJ.out]; exact hmp) om3 with ⟨h0, ls, la, ll, lc, hrun⟩ | ⟨h0, lid, ls, la, ll, lc, hrun⟩
              · go_simp
                refine hK.out _ _ (s4 B3) (fun hHeld => ?_)
                clear hK Kk
                refine wpAnyH_take (i := 6) (oi := Oper.mk (some 21) _ _ _ _ _) (v := ?v12) rfl (by kernel_rfl) (by kernel_rfl) (by kernel_rfl) (fun _ _ _ h => h) (Or.inl ⟨by rfl, ?y12⟩) hHeld ?r12
                case y12 => (intro W hSW; obtain ⟨q0, q1, q2⟩ := hSW; go_simp; try with_reducible rfl)
                simp only [Act.put, List.setIfInBounds_toArray, List.set_cons_zero, List.set_cons_succ]
                refine wpAnyH_take (i := 7) (oi := Oper.mk (some 28) _ _ _ _ _) (v := ?v13) rfl (by kernel_rfl) (by kernel_rfl) (by kernel_rfl) (fun _ _ _ h => h) (Or.inl ⟨by rfl, ?y13⟩) hHeld ?r13
                case y13 => (intro W hSW; obtain ⟨q0, q1, q2⟩ := hSW; go_simp; try with_reducible rfl)
                simp only [Act.put, List.setIfInBounds_toArray, List.set_cons_zero, List.set_cons_succ]
                refine wpAnyH_take (i := 8) (oi := Oper.mk (some 29) _ _ _ _ _) (v := ?v14) rfl (by kernel_rfl) (by kernel_rfl) (by kernel_rfl) (fun _ _ _ h => h) (Or.inl ⟨by rfl, ?y14⟩) hHeld ?r14
                case y14 => (intro W hSW; obtain ⟨q0, q1, q2⟩ := hSW; go_simp; try with_reducible rfl)
                simp only [Act.put, List.setIfInBounds_toArray, List.set_cons_zero, List.set_cons_succ]
                refine wpAnyH_ready (rs := [10]) (by kernel_rfl) (by simp) (AllReadyH.cons (o := Oper.mk none _ _ _ _ _) rfl (fun Kk hK => ?_) AllReadyH.nil)
                have Be := B2.alloc B2.size (.cells #[.int .i64 (idP (J.map It.pl) kd M), .string ls, .slice la ll lc] 54)
                have ce := (box_cell (box_new w12 (.int .i64 (idP (J.map It.pl) kd M)) (.string ls) (.slice la ll lc) 54)).1
                go_simp
                refine hK.out _ _ (s4 Be) (fun hHeld => ?_)
                clear hK Kk
                refine wpAnyH_take (i := 11) (oi := Oper.mk (some 9) _ _ _ _ _) (v := ?v15) rfl (by kernel_rfl) (by kernel_rfl) (by kernel_rfl) (fun _ _ _ h => h) (Or.inl ⟨by rfl, ?y15⟩) hHeld ?r15
                case y15 => (intro W hSW; obtain ⟨q0, q1, q2⟩ := hSW; go_simp; try with_reducible rfl)
                simp only [Act.put, List.setIfInBounds_toArray, List.set_cons_zero, List.set_cons_succ]
                refine wpAnyH_done (by kernel_rfl) ?_ _
                clear hHeld
                go_wp2_with fail
                go_meet
                exact ⟨_, rfl, by first | rfl | (congr 1; symm; simp; omega), hX3, fun _ => ce, Be⟩
              · go_simp
                refine hK.out _ _ (s4 B3) (fun hHeld => ?_)
                clear hK Kk
                refine wpAnyH_take (i := 6) (oi := Oper.mk (some 21) _ _ _ _ _) (v := ?v16) rfl (by kernel_rfl) (by kernel_rfl) (by kernel_rfl) (fun _ _ _ h => h) (Or.inl ⟨by rfl, ?y16⟩) hHeld ?r16
                case y16 => (intro W hSW; obtain ⟨q0, q1, q2⟩ := hSW; go_simp; try with_reducible rfl)
                simp only [Act.put, List.setIfInBounds_toArray, List.set_cons_zero, List.set_cons_succ]
                refine wpAnyH_take (i := 7) (oi := Oper.mk (some 28) _ _ _ _ _) (v := ?v17) rfl (by kernel_rfl) (by kernel_rfl) (by kernel_rfl) (fun _ _ _ h => h) (Or.inl ⟨by rfl, ?y17⟩) hHeld ?r17
                case y17 => (intro W hSW; obtain ⟨q0, q1, q2⟩ := hSW; go_simp; try with_reducible rfl)
                simp only [Act.put, List.setIfInBounds_toArray, List.set_cons_zero, List.set_cons_succ]
                refine wpAnyH_take (i := 8) (oi := Oper.mk (some 29) _ _ _ _ _) (v := ?v18) rfl (by kernel_rfl) (by kernel_rfl) (by kernel_rfl) (fun _ _ _ h => h) (Or.inl ⟨by rfl, ?y18⟩) hHeld ?r18
                case y18 => (intro W hSW; obtain ⟨q0, q1, q2⟩ := hSW; go_simp; try with_reducible rfl)
                simp only [Act.put, List.setIfInBounds_toArray, List.set_cons_zero, List.set_cons_succ]
                refine wpAnyH_ready (rs := [10]) (by kernel_rfl) (by simp) (AllReadyH.cons (o := Oper.mk none _ _ _ _ _) rfl (fun Kk hK => ?_) AllReadyH.nil)
                have Be := B2.alloc B2.size (.cells #[.int .i64 lid, .string ls, .slice la ll lc] 54)
                have ce := (box_cell (box_new w12 (.int .i64 lid) (.string ls) (.slice la ll lc) 54)).1
                go_simp
                refine hK.out _ _ (s4 Be) (fun hHeld => ?_)
                clear hK Kk
                refine wpAnyH_take (i := 11) (oi := Oper.mk (some 9) _ _ _ _ _) (v := ?v19) rfl (by kernel_rfl) (by kernel_rfl) (by kernel_rfl) (fun _ _ _ h => h) (Or.inl ⟨by rfl, ?y19⟩) hHeld ?r19
                case y19 => (intro W hSW; obtain ⟨q0, q1, q2⟩ := hSW; go_simp; try with_reducible rfl)
                simp only [Act.put, List.setIfInBounds_toArray, List.set_cons_zero, List.set_cons_succ]
                refine wpAnyH_done (by kernel_rfl) ?_ _
                clear hHeld
                go_wp2_with fail
                go_meet
                exact ⟨_, rfl, by first | rfl | (congr 1; symm; simp; omega), hX3, fun h => by omega, Be⟩
          · have B2 := B1.alloc B1.size (.cells #[.int .i64 0, .string ⟨#[]⟩, .slice none 0 0] 54)
            have X2 := box_new w11 (.int .i64 0) (.string ⟨#[]⟩) (.slice none 0 0) 54
            have om2 := ownsMap_below om1 (below_al w11 (.cells #[.int .i64 0, .string ⟨#[]⟩, .slice none 0 0] 54))
            have hX2 : w4.heap.size ≤ w11.heap.size := B1.size
            go_simp
            refine hK.out _ _ (s4 B2) (fun hHeld => ?_)
            clear hK Kk
            refine wpAnyH_ready (rs := [4]) (by kernel_rfl) (by simp) (AllReadyH.cons (o := Oper.mk (some 26) _ _ _ _ _) rfl (fun Kk hK => ?_) AllReadyH.nil)
            go_simp
            refine (implFactText_any kd b cb M _ hkd (hq4.below B2) HSM.out hm (HTab.out.later (hB4.trans (B2.mono hB4.size)) (Nat.le_refl _))).mono ?_
            rintro e w13 ⟨rfl, hb3⟩
            have B3 : Below w4.heap.size w4 w13 := B2.trans (hb3.mono B2.size)
            have om3 := ownsMap_below om2 hb3
            have X3 := box_step X2 hb3
            refine hK.out _ _ (s4 B3) (fun hHeld => ?_)
            clear hK Kk
            refine wpAnyH_ready (rs := [5]) (by kernel_rfl) (by simp) (AllReadyH.cons (o := Oper.mk (some 27) _ _ _ _ _) rfl (fun Kk hK => ?_) AllReadyH.nil)
            rcases look_text (zItem _) HSb.out HFb.out (by rw [HJ.out]; exact hmp) om3 with ⟨h0, ls, la, ll, lc, hrun⟩ | ⟨h0, lid, ls, la, ll, lc, hrun⟩
            · go_simp
              refine hK.out _ _ (s4 B3) (fun hHeld => ?_)
              clear hK Kk
              refine wpAnyH_take (i := 6) (oi := Oper.mk (some 21) _ _ _ _ _) (v := ?v20) rfl (by kernel_rfl) (by kernel_rfl) (by kernel_rfl) (fun _ _ _ h => h) (Or.inl ⟨by rfl, ?y20⟩) hHeld ?r20
              case y20 => (intro W hSW; obtain ⟨q0, q1, q2⟩ := hSW; go_simp; try with_reducible rfl)
              simp only [Act.put, List.setIfInBounds_toArray, List.set_cons_zero, List.set_cons_succ]
              refine wpAnyH_take (i := 7) (oi := Oper.mk (some 28) _ _ _ _ _) (v := ?v21) rfl (by kernel_rfl) (by kernel_rfl) (by kernel_rfl) (fun _ _ _ h => h) (Or.inl ⟨by rfl, ?y21⟩) hHeld ?r21
              case y21 => (intro W hSW; obtain ⟨q0, q1, q2⟩ := hSW; go_simp; try with_reducible rfl)
              simp only [Act.put, List.setIfInBounds_toArray, List.set_cons_zero, List.set_cons_succ]
              refine wpAnyH_take (i := 8) (oi := Oper.mk (some 29) _ _ _ _ _) (v := ?v22) rfl (by kernel_rfl) (by kernel_rfl) (by kernel_rfl) (fun _ _ _ h => h) (Or.inl ⟨by rfl, ?y22⟩) hHeld ?r22
              case y22 => (intro W hSW; obtain ⟨q0, q1, q2⟩ := hSW; go_simp; try with_reducible rfl)
              simp only [Act.put, List.setIfInBounds_toArray, List.set_cons_zero, List.set_cons_succ]
              refine wpAnyH_ready (rs := [10]) (by kernel_rfl) (by simp) (AllReadyH.cons (o := Oper.mk none _ _ _ _ _) rfl (fun Kk hK => ?_) AllReadyH.nil)
              obtain ⟨z0, z1, z2, y0, y1, y2⟩ := box_cell X3
              have st := box_set3 X3 (.int .i64 (idP (J.map It.pl) kd M)) (.string ls) (.slice la ll lc)
              have Be := B3.grown st.2 B3.size (fun q e => by have e2 := Option.some.inj e; rw [← e2]; exact hX2)
              have ce := (box_cell st.1).1
              go_simp
              refine hK.out _ _ (s4 Be) (fun hHeld => ?_)
              clear hK Kk
              refine wpAnyH_take (i := 11) (oi := Oper.mk (some 9) _ _ _ _ _) (v := ?v23) rfl (by kernel_rfl) (by kernel_rfl) (by kernel_rfl) (fun _ _ _ h => h) (Or.inl ⟨by rfl, ?y23⟩) hHeld ?r23
              case y23 => (intro W hSW; obtain ⟨q0, q1, q2⟩ := hSW; go_simp; try with_reducible rfl)
              simp only [Act.put, List.setIfInBounds_toArray, List.set_cons_zero, List.set_cons_succ]
              refine wpAnyH_done (by kernel_rfl) ?_ _
              clear hHeld
              go_wp2_with fail
              go_meet
              exact ⟨_, rfl, by first | rfl | (congr 1; symm; simp; omega), hX2, fun _ => ce, Be⟩
            · go_simp
              refine hK.out _ _ (s4 B3) (fun hHeld => ?_)
              clear hK Kk
              refine wpAnyH_take (i := 6) (oi := Oper.mk (some 21) _ _ _ _ _) (v := ?v24) rfl (by kernel_rfl) (by kernel_rfl) (by kernel_rfl) (fun _ _ _ h => h) (Or.inl ⟨by rfl, ?y24⟩) hHeld ?r24
              case y24 => (intro W hSW; obtain ⟨q0, q1, q2⟩ := hSW; go_simp; try with_reducible rfl)
              simp only [Act.put, List.setIfInBounds_toArray, List.set_cons_zero, List.set_cons_succ]
              refine wpAnyH_take (i := 7) (oi := Oper.mk (some 28) _ _ _ _ _) (v := ?v25) rfl (by kernel_rfl) (by kernel_rfl) (by kernel_rfl) (fun _ _ _ h => h) (Or.inl ⟨by rfl, ?y25⟩) hHeld ?r25
              case y25 => (intro W hSW; obtain ⟨q0, q1, q2⟩ := hSW; go_simp; try with_reducible rfl)
              simp only [Act.put, List.setIfInBounds_toArray, List.set_cons_zero, List.set_cons_succ]
              refine wpAnyH_take (i := 8) (oi := Oper.mk (some 29) _ _ _ _ _) (v := ?v26) rfl (by kernel_rfl) (by kernel_rfl) (by kernel_rfl) (fun _ _ _ h => h) (Or.inl ⟨by rfl, ?y26⟩) hHeld ?r26
              case y26 => (intro W hSW; obtain ⟨q0, q1, q2⟩ := hSW; go_simp; try with_reducible rfl)
              simp only [Act.put, List.setIfInBounds_toArray, List.set_cons_zero, List.set_cons_succ]
              refine wpAnyH_ready (rs := [10]) (by kernel_rfl) (by simp) (AllReadyH.cons (o := Oper.mk none _ _ _ _ _) rfl (fun Kk hK => ?_) AllReadyH.nil)
              obtain ⟨z0, z1, z2, y0, y1, y2⟩ := box_cell X3
              have st := box_set3 X3 (.int .i64 lid) (.string ls) (.slice la ll lc)
              have Be := B3.grown st.2 B3.size (fun q e => by have e2 := Option.some.inj e; rw [← e2]; exact hX2)
              have ce := (box_cell st.1).1
              go_simp
              refine hK.out _ _ (s4 Be) (fun hHeld => ?_)
              clear hK Kk
              refine wpAnyH_take (i := 11) (oi := Oper.mk (some 9) _ _ _ _ _) (v := ?v27) rfl (by kernel_rfl) (by kernel_rfl) (by kernel_rfl) (fun _ _ _ h => h) (Or.inl ⟨by rfl, ?y27⟩) hHeld ?r27
              case y27 => (intro W hSW; obtain ⟨q0, q1, q2⟩ := hSW; go_simp; try with_reducible rfl)
              simp only [Act.put, List.setIfInBounds_toArray, List.set_cons_zero, List.set_cons_succ]
              refine wpAnyH_done (by kernel_rfl) ?_ _
              clear hHeld
              go_wp2_with fail
              go_meet
              exact ⟨_, rfl, by first | rfl | (congr 1; symm; simp; omega), hX2, fun h => by omega, Be⟩
        · have B1 := B0.alloc B0.size (.cells #[.int .i64 0, .string ⟨#[]⟩, .slice none 0 0] 54)
          have X1 := box_new w4 (.int .i64 0) (.string ⟨#[]⟩) (.slice none 0 0) 54
          have hX1 : w4.heap.size ≤ w4.heap.size := B0.size
          go_simp
          refine hK.out _ _ (s4 B1.drew) (fun hHeld => ?_)
          clear hK Kk
          refine wpAnyH_ready (rs := [2]) (by kernel_rfl) (by simp) (AllReadyH.cons (o := Oper.mk (some 24) _ _ _ _ _) rfl (fun Kk hK => ?_) AllReadyH.nil)
          go_simp
          refine (byText_any a n cap J _ (hr4.below B1.drew) HJ.out (by omega) HOk.out HS.out (HTab.out.later (hB4.trans (B1.drew.mono hB4.size)) (Nat.le_refl _))).mono ?_
          rintro e w12 ⟨Bm, D, rfl, om2, hmp, hb2⟩
          have B2 : Below w4.heap.size w4 w12 := B1.drew.trans (hb2.mono B1.drew.size)
          have X2 := box_drw X1 hb2
          refine hK.out _ _ (s4 B2) (fun hHeld => ?_)
          clear hK Kk
          refine wpAnyH_ready (rs := [4]) (by kernel_rfl) (by simp) (AllReadyH.cons (o := Oper.mk (some 26) _ _ _ _ _) rfl (fun Kk hK => ?_) AllReadyH.nil)
          go_simp
          refine (implFactText_any kd b cb M _ hkd (hq4.below B2) HSM.out hm (HTab.out.later (hB4.trans (B2.mono hB4.size)) (Nat.le_refl _))).mono ?_
          rintro e w13 ⟨rfl, hb3⟩
          have B3 : Below w4.heap.size w4 w13 := B2.trans (hb3.mono B2.size)
          have om3 := ownsMap_below om2 hb3
          have X3 := box_step X2 hb3
          refine hK.out _ _ (s4 B3) (fun hHeld => ?_)
          clear hK Kk
          refine wpAnyH_ready (rs := [5]) (by kernel_rfl) (by simp) (AllReadyH.cons (o := Oper.mk (some 27) _ _ _ _ _) rfl (fun Kk hK => ?_) AllReadyH.nil)
          rcases look_text (zItem _) HSb.out HFb.out (by rw [HJ.out]; exact hmp) om3 with ⟨h0, ls, la, ll, lc, hrun⟩ | ⟨h0, lid, ls, la, ll, lc, hrun⟩
          · go_simp
            refine hK.out _ _ (s4 B3) (fun hHeld => ?_)
            clear hK Kk
            refine wpAnyH_take (i := 6) (oi := Oper.mk (some 21) _ _ _ _ _) (v := ?v28) rfl (by kernel_rfl) (by kernel_rfl) (by kernel_rfl) (fun _ _ _ h => h) (Or.inl ⟨by rfl, ?y28⟩) hHeld ?r28
            case y28 => (intro W hSW; obtain ⟨q0, q1, q2⟩ := hSW; go_simp; try with_reducible rfl)
            simp only [Act.put, List.setIfInBounds_toArray, List.set_cons_zero, List.set_cons_succ]
            refine wpAnyH_take (i := 7) (oi := Oper.mk (some 28) _ _ _ _ _) (v := ?v29) rfl (by kernel_rfl) (by kernel_rfl) (by kernel_rfl) (fun _ _ _ h => h) (Or.inl ⟨by rfl, ?y29⟩) hHeld ?r29
            case y29 => (intro W hSW; obtain ⟨q0, q1, q2⟩ := hSW; go_simp; try with_reducible rfl)
            simp only [Act.put, List.setIfInBounds_toArray, List.set_cons_zero, List.set_cons_succ]
            refine wpAnyH_take (i := 8) (oi := Oper.mk (some 29) _ _ _ _ _) (v := ?v30) rfl (by kernel_rfl) (by kernel_rfl) (by kernel_rfl) (fun _ _ _ h => h) (Or.inl ⟨by rfl, ?y30⟩) hHeld ?r30
            case y30 => (intro W hSW; obtain ⟨q0, q1, q2⟩ := hSW; go_simp; try with_reducible rfl)
            simp only [Act.put, List.setIfInBounds_toArray, List.set_cons_zero, List.set_cons_succ]
            refine wpAnyH_ready (rs := [10]) (by kernel_rfl) (by simp) (AllReadyH.cons (o := Oper.mk none _ _ _ _ _) rfl (fun Kk hK => ?_) AllReadyH.nil)
            obtain ⟨z0, z1, z2, y0, y1, y2⟩ := box_cell X3
            have st := box_set3 X3 (.int .i64 (idP (J.map It.pl) kd M)) (.string ls) (.slice la ll lc)
            have Be := B3.grown st.2 B3.size (fun q e => by have e2 := Option.some.inj e; rw [← e2]; exact hX1)
            have ce := (box_cell st.1).1
            go_simp
            refine hK.out _ _ (s4 Be) (fun hHeld => ?_)
            clear hK Kk
            refine wpAnyH_take (i := 11) (oi := Oper.mk (some 9) _ _ _ _ _) (v := ?v31) rfl (by kernel_rfl) (by kernel_rfl) (by kernel_rfl) (fun _ _ _ h => h) (Or.inl ⟨by rfl, ?y31⟩) hHeld ?r31
            case y31 => (intro W hSW; obtain ⟨q0, q1, q2⟩ := hSW; go_simp; try with_reducible rfl)
            simp only [Act.put, List.setIfInBounds_toArray, List.set_cons_zero, List.set_cons_succ]
            refine wpAnyH_done (by kernel_rfl) ?_ _
            clear hHeld
            go_wp2_with fail
            go_meet
            exact ⟨_, rfl, by first | rfl | (congr 1; symm; simp; omega), hX1, fun _ => ce, Be⟩
          · go_simp
            refine hK.out _ _ (s4 B3) (fun hHeld => ?_)
            clear hK Kk
            refine wpAnyH_take (i := 6) (oi := Oper.mk (some 21) _ _ _ _ _) (v := ?v32) rfl (by kernel_rfl) (by kernel_rfl) (by kernel_rfl) (fun _ _ _ h => h) (Or.inl ⟨by rfl, ?y32⟩) hHeld ?r32
            case y32 => (intro W hSW; obtain ⟨q0, q1, q2⟩ := hSW; go_simp; try with_reducible rfl)
            simp only [Act.put, List.setIfInBounds_toArray, List.set_cons_zero, List.set_cons_succ]
            refine wpAnyH_take (i := 7) (oi := Oper.mk (some 28) _ _ _ _ _) (v := ?v33) rfl (by kernel_rfl) (by kernel_rfl) (by kernel_rfl) (fun _ _ _ h => h) (Or.inl ⟨by rfl, ?y33⟩) hHeld ?r33
            case y33 => (intro W hSW; obtain ⟨q0, q1, q2⟩ := hSW; go_simp; try with_reducible rfl)
            simp only [Act.put, List.setIfInBounds_toArray, List.set_cons_zero, List.set_cons_succ]
            refine wpAnyH_take (i := 8) (oi := Oper.mk (some 29) _ _ _ _ _) (v := ?v34) rfl (by kernel_rfl) (by kernel_rfl) (by kernel_rfl) (fun _ _ _ h => h) (Or.inl ⟨by rfl, ?y34⟩) hHeld ?r34
            case y34 => (intro W hSW; obtain ⟨q0, q1, q2⟩ := hSW; go_simp; try with_reducible rfl)
            simp only [Act.put, List.setIfInBounds_toArray, List.set_cons_zero, List.set_cons_succ]
            refine wpAnyH_ready (rs := [10]) (by kernel_rfl) (by simp) (AllReadyH.cons (o := Oper.mk none _ _ _ _ _) rfl (fun Kk hK => ?_) AllReadyH.nil)
            obtain ⟨z0, z1, z2, y0, y1, y2⟩ := box_cell X3
            have st := box_set3 X3 (.int .i64 lid) (.string ls) (.slice la ll lc)
            have Be := B3.grown st.2 B3.size (fun q e => by have e2 := Option.some.inj e; rw [← e2]; exact hX1)
            have ce := (box_cell st.1).1
            go_simp
            refine hK.out _ _ (s4 Be) (fun hHeld => ?_)
            clear hK Kk
            refine wpAnyH_take (i := 11) (oi := Oper.mk (some 9) _ _ _ _ _) (v := ?v35) rfl (by kernel_rfl) (by kernel_rfl) (by kernel_rfl) (fun _ _ _ h => h) (Or.inl ⟨by rfl, ?y35⟩) hHeld ?r35
            case y35 => (intro W hSW; obtain ⟨q0, q1, q2⟩ := hSW; go_simp; try with_reducible rfl)
            simp only [Act.put, List.setIfInBounds_toArray, List.set_cons_zero, List.set_cons_succ]
            refine wpAnyH_done (by kernel_rfl) ?_ _
            clear hHeld
            go_wp2_with fail
            go_meet
            exact ⟨_, rfl, by first | rfl | (congr 1; symm; simp; omega), hX1, fun h => by omega, Be⟩
      case rest =>
      obtain ⟨X, rfl, rfl, hXl, hXc, hbc⟩ := hcut
      have hPc := box_step hP4 hbc
      have hAc := box_step hA4 hbc
      have hFc := box_step hF4 hbc
      have hRc := box_step hR4 hbc
      have hVc := hV4.later hbc
      have hqc := hq4.below hbc
      have hBc := hB4.trans (hbc.mono hB4.size)
      have hlc : w0.heap.size ≤ wc.heap.size := Nat.le_trans hl4 hbc.size
      clear hP4 hA4 hF4 hR4 hV4 hq4 hB4 hr4 s4 B0 HOk
      obtain ⟨r, hr⟩ : ∃ r, idP (J.map It.pl) kd M = r := ⟨_, rfl⟩
      have HR := hide hr
      rw [hr] at hXc ⊢
      clear hr
      obtain ⟨p0, p1, -, -⟩ := box2_cell hPc
      obtain ⟨a0, a1, -, -⟩ := box2_cell hAc
      by_cases h0 : 0 < r
      · have HE : Hid (asR nx J kd M = (r, nx, J.map It.pl)) := by rw [hide (HA.out)]; unfold Hid assP; rw [HR.out, if_pos h0]
        rw [decide_eq_true h0]
        have xc := hXc h0
        go_wp2_with fail
        have hbd : Below wc.heap.size wc wc.drew := (Below.refl _ _).drew
        have hRd := box_step hRc hbd
        have hBd := hBc.trans (hbd.mono hBc.size)
        have hVd := hVc.later hbd
        have hzd : wc.heap.size ≤ wc.drew.heap.size := hbd.size
        have hSd : wc.drew.cell? ⟨w1.heap.size, 0, none⟩ = some (.slice (some ⟨g, 0, none⟩) n vc) ∧ wc.drew.cell? ⟨w1.heap.size, 1, none⟩ = some (.int .i64 nx) ∧ wc.drew.cell? ⟨X, 0, none⟩ = some (.int .i64 r) := ⟨p0, p1, xc⟩
        refine wp_region_held_drew (S := fun W => W.cell? ⟨w1.heap.size, 0, none⟩ = some (.slice (some ⟨g, 0, none⟩) n vc) ∧ W.cell? ⟨w1.heap.size, 1, none⟩ = some (.int .i64 nx) ∧ W.cell? ⟨X, 0, none⟩ = some (.int .i64 r)) (by kernel_rfl) hSd (fun hHeld => ?_)
        generalize wc.drew = wd at hbd hRd hBd hVd hzd hSd hHeld ⊢
        obtain ⟨s0, s1, s2⟩ := hSd
        refine wpAnyH_take (i := 0) (oi := Oper.mk (some 31) _ _ _ _ _) (v := ?v36) rfl (by kernel_rfl) (by kernel_rfl) (by kernel_rfl) (fun _ _ _ h => h) (Or.inl ⟨by rfl, ?y36⟩) hHeld ?r36
        case y36 => (intro W hSW; obtain ⟨q0, q1, q2⟩ := hSW; go_simp; try with_reducible rfl)
        simp only [Act.put, List.setIfInBounds_toArray, List.set_cons_zero, List.set_cons_succ]
        refine wpAnyH_take (i := 1) (oi := Oper.mk (some 32) _ _ _ _ _) (v := ?v37) rfl (by kernel_rfl) (by kernel_rfl) (by kernel_rfl) (fun _ _ _ h => h) (Or.inl ⟨by rfl, ?y37⟩) hHeld ?r37
        case y37 => (intro W hSW; obtain ⟨q0, q1, q2⟩ := hSW; go_simp; try with_reducible rfl)
        simp only [Act.put, List.setIfInBounds_toArray, List.set_cons_zero, List.set_cons_succ]
        refine wpAnyH_take (i := 2) (oi := Oper.mk (some 33) _ _ _ _ _) (v := ?v38) rfl (by kernel_rfl) (by kernel_rfl) (by kernel_rfl) (fun _ _ _ h => h) (Or.inl ⟨by rfl, ?y38⟩) hHeld ?r38
        case y38 => (intro W hSW; obtain ⟨q0, q1, q2⟩ := hSW; go_simp; try with_reducible rfl)
        simp only [Act.put, List.setIfInBounds_toArray, List.set_cons_zero, List.set_cons_succ]
        refine wpAnyH_ready (rs := [3]) (by kernel_rfl) (by simp) (AllReadyH.cons (o := Oper.mk none _ _ _ _ _) rfl (fun Kk hK => ?_) AllReadyH.nil)
        obtain ⟨r0, r1, rf0, rf1⟩ := box2_cell hRd
        have st := box2_set hRd (.slice (some ⟨g, 0, none⟩) (n) vc) (.int .i64 (nx))
        go_simp
        refine hK.out _ _ ?sk (fun hHeld => ?_)
        case sk => exact ⟨cell_gr st.2 s0 (by omega), cell_gr st.2 s1 (by omega), cell_gr st.2 s2 (by omega)⟩
        clear hK Kk
        refine wpAnyH_take (i := 4) (oi := Oper.mk (some 5) _ _ _ _ _) (v := ?v39) rfl (by kernel_rfl) (by kernel_rfl) (by kernel_rfl) (fun _ _ _ h => h) (Or.inl ⟨by rfl, ?y39⟩) hHeld ?r39
        case y39 => (intro W hSW; obtain ⟨q0, q1, q2⟩ := hSW; go_simp; try with_reducible rfl)
        simp only [Act.put, List.setIfInBounds_toArray, List.set_cons_zero, List.set_cons_succ]
        refine wpAnyH_take (i := 5) (oi := Oper.mk (some 6) _ _ _ _ _) (v := ?v40) rfl (by kernel_rfl) (by kernel_rfl) (by kernel_rfl) (fun _ _ _ h => h) (Or.inl ⟨by rfl, ?y40⟩) hHeld ?r40
        case y40 => (intro W hSW; obtain ⟨q0, q1, q2⟩ := hSW; go_simp; try with_reducible rfl)
        simp only [Act.put, List.setIfInBounds_toArray, List.set_cons_zero, List.set_cons_succ]
        refine wpAnyH_done (by kernel_rfl) ?_ _
        clear hHeld
        go_wp2_with fail
        refine box2_post hRd (fun w5 h5 gr => ?_)
        clear r0 r1 rf0 rf1
        obtain ⟨d0, d1, -, -⟩ := box2_cell h5
        exact bodyPost_ret (v := .tuple #[.agg #[.slice (some ⟨g, 0, none⟩) n vc, .int .i64 nx], .int .i64 r, .bool true]) (by simp [results, Tryd.results15, go_sem, d0, d1]) rfl
          ⟨_, vc, K, by rw [HE.out, HKn.out, decide_eq_true h0], by rw [HKn.out]; exact (hVd.grown gr (by omega)).weaken (by omega), by rw [HE.out]; exact HPl.out, below_set hBd gr (by omega)⟩
      · rw [decide_eq_false h0]
        have HLn : Hid ((J.map It.pl).length = n) := by unfold Hid; rw [List.length_map, HJ.out]
        by_cases h40 : n = 40
        · have HE : Hid (asR nx J kd M = (0, nx, J.map It.pl)) := by rw [hide (HA.out)]; unfold Hid assP; rw [HR.out, if_neg h0, if_pos (Or.inl (by rw [HLn.out]; omega))]
          have k40 : ((n : Int) == 40) = true := by rw [h40]; rfl
          clear h40
          obtain ⟨r0, r1, rf0, rf1⟩ := box2_cell hRc
          go_wp2
          refine box2_post hRc (fun w5 h5 gr => ?_)
          clear p0 p1 r0 r1 rf0 rf1 a0 a1
          obtain ⟨d0, d1, -, -⟩ := box2_cell h5
          exact bodyPost_ret (v := .tuple #[.agg #[.slice (some ⟨g, 0, none⟩) n vc, .int .i64 nx], .int .i64 0, .bool false]) (by simp [results, Tryd.results15, go_sem, d0, d1]) rfl
            ⟨_, vc, K, by rw [HE.out, HKn.out]; rfl, by rw [HKn.out]; exact (hVc.grown gr (by omega)).weaken (by omega), by rw [HE.out]; exact HPl.out, below_set hBc gr (by omega)⟩
        have k40 : ((n : Int) == 40) = false := by simp; omega
        by_cases hmx : nx = 1000000
        · have HE : Hid (asR nx J kd M = (0, nx, J.map It.pl)) := by rw [hide (HA.out)]; unfold Hid assP; rw [HR.out, if_neg h0, if_pos (Or.inr (by omega))]
          have kmx : (nx == 1000000) = true := by simpa using hmx
          clear hmx
          obtain ⟨r0, r1, rf0, rf1⟩ := box2_cell hRc
          go_wp2
          refine box2_post hRc (fun w5 h5 gr => ?_)
          clear p0 p1 r0 r1 rf0 rf1 a0 a1
          obtain ⟨d0, d1, -, -⟩ := box2_cell h5
          exact bodyPost_ret (v := .tuple #[.agg #[.slice (some ⟨g, 0, none⟩) n vc, .int .i64 nx], .int .i64 0, .bool false]) (by simp [results, Tryd.results15, go_sem, d0, d1]) rfl
            ⟨_, vc, K, by rw [HE.out, HKn.out]; rfl, by rw [HKn.out]; exact (hVc.grown gr (by omega)).weaken (by omega), by rw [HE.out]; exact HPl.out, below_set hBc gr (by omega)⟩
        have kmx : (nx == 1000000) = false := by simpa using hmx
        have HE : Hid (asR nx J kd M = (nx, nx + 1, J.map It.pl ++ [⟨nx, kd, M⟩])) := by rw [hide (HA.out)]; unfold Hid assP; rw [HR.out, if_neg h0, if_neg (by rw [HLn.out]; omega)]
        obtain ⟨i0, hi, hz0, hz1, hz2⟩ := info_parts Tryd.info54
        obtain ⟨g2, hgs, hcop, hob, hown2, -, -⟩ := gi hVc HKn.out hPc
        have HCop := hide hcop
        have HOb := hide hob
        clear hcop hob
        have s9 : ∀ {W : World}, Below w0.heap.size wc W → W.cell? ⟨w.heap.size, 1, none⟩ = some (.int .i64 nx) ∧ W.cell? ⟨w.heap.size + 1, 0, none⟩ = some (.string kd) ∧ W.cell? ⟨w.heap.size + 1, 1, none⟩ = some (.slice b M.length cb) := fun {W} h =>
          ⟨(box2_cell ((h.block w.heap.size (by omega)).trans hAc)).2.1, (box2_cell ((h.block (w.heap.size + 1) (by omega)).trans hFc)).1, (box2_cell ((h.block (w.heap.size + 1) (by omega)).trans hFc)).2.1⟩
        have B0 : Below w0.heap.size wc wc := Below.refl _ _
        clear p0 p1 hXc
        go_upto_region 9 with fail
        go_cut [52] (fun _ W => ∃ g5 c5 a' c', W.heap[w1.heap.size]? = some (.cells #[.slice (some ⟨g5, 0, none⟩) (n + 1) c5, .int .i64 nx] 29 (0, 0)) ∧ HoldsI W w0.heap.size g5 c5 (K ++ [⟨nx, kd, a', c', M⟩]) ∧ Below w0.heap.size wc W)
        case first =>
          have hSd : wc.drew.cell? ⟨w.heap.size, 1, none⟩ = some (.int .i64 nx) ∧ wc.drew.cell? ⟨w.heap.size + 1, 0, none⟩ = some (.string kd) ∧ wc.drew.cell? ⟨w.heap.size + 1, 1, none⟩ = some (.slice b M.length cb) := s9 B0.drew
          refine wp_region_held_drew (S := fun W => W.cell? ⟨w.heap.size, 1, none⟩ = some (.int .i64 nx) ∧ W.cell? ⟨w.heap.size + 1, 0, none⟩ = some (.string kd) ∧ W.cell? ⟨w.heap.size + 1, 1, none⟩ = some (.slice b M.length cb)) (by kernel_rfl) hSd (fun hHeld => ?_)
          have hbd : Below wc.heap.size wc wc.drew := (Below.refl _ _).drew
          have hPd := box_step hPc hbd
          have hqd := hqc.below hbd
          have hOd := ownsRow_below hown2 hbd
          have hzd : wc.heap.size ≤ wc.drew.heap.size := hbd.size
          have hBd : Below w0.heap.size wc wc.drew := hbd.mono hlc
          have HCd : Hid (∀ x, Copied wc.drew w0.heap.size g2 (K ++ [x]) K n) := fun x => (HCop.out x)
          generalize wc.drew = wd at hbd hPd hqd hOd hzd hBd HCd hHeld hSd ⊢
          obtain ⟨op, -, -, -⟩ := box2_cell hPd
          refine wpAnyH_take (i := 0) (oi := Oper.mk (some 44) _ _ _ _ _) (v := ?v41) rfl (by kernel_rfl) (by kernel_rfl) (by kernel_rfl) (fun _ _ _ h => h) (Or.inl ⟨by rfl, ?y41⟩) hHeld ?r41
          case y41 => (intro W hSW; obtain ⟨q0, q1, q2⟩ := hSW; go_simp; try with_reducible rfl)
          simp only [Act.put, List.setIfInBounds_toArray, List.set_cons_zero, List.set_cons_succ]
          refine wpAnyH_take (i := 2) (oi := Oper.mk (some 46) _ _ _ _ _) (v := ?v42) rfl (by kernel_rfl) (by kernel_rfl) (by kernel_rfl) (fun _ _ _ h => h) (Or.inl ⟨by rfl, ?y42⟩) hHeld ?r42
          case y42 => (intro W hSW; obtain ⟨q0, q1, q2⟩ := hSW; go_simp; try with_reducible rfl)
          simp only [Act.put, List.setIfInBounds_toArray, List.set_cons_zero, List.set_cons_succ]
          refine wpAnyH_take (i := 3) (oi := Oper.mk (some 47) _ _ _ _ _) (v := ?v43) rfl (by kernel_rfl) (by kernel_rfl) (by kernel_rfl) (fun _ _ _ h => h) (Or.inl ⟨by rfl, ?y43⟩) hHeld ?r43
          case y43 => (intro W hSW; obtain ⟨q0, q1, q2⟩ := hSW; go_simp; try with_reducible rfl)
          simp only [Act.put, List.setIfInBounds_toArray, List.set_cons_zero, List.set_cons_succ]
          refine wpAnyH_take (i := 4) (oi := Oper.mk (some 48) _ _ _ _ _) (v := ?v44) rfl (by kernel_rfl) (by kernel_rfl) (by kernel_rfl) (fun _ _ _ h => h) (Or.inl ⟨by rfl, ?y44⟩) hHeld ?r44
          case y44 => (intro W hSW; obtain ⟨q0, q1, q2⟩ := hSW; go_simp; try with_reducible rfl)
          simp only [Act.put, List.setIfInBounds_toArray, List.set_cons_zero, List.set_cons_succ]
          refine wpAnyH_ready (rs := [1, 5]) (by kernel_rfl) (by simp) (AllReadyH.cons (o := Oper.mk (some 45) _ _ _ _ _) rfl (fun Kk hK => ?_) (AllReadyH.cons (o := Oper.mk (some 49) _ _ _ _ _) rfl (fun Kk hK => ?_) AllReadyH.nil))
          · go_simp
            refine hK.out _ _ hSd (fun hHeld => ?_)
            clear hK Kk
            refine wpAnyH_ready (rs := [5]) (by kernel_rfl) (by simp) (AllReadyH.cons (o := Oper.mk (some 49) _ _ _ _ _) rfl (fun Kk hK => ?_) AllReadyH.nil)
            go_simp
            refine (copyFact_any kd b cb M _ hqd hlM hm).mono ?_
            rintro e w3 ⟨a', c', rfl, hnew, hb3⟩
            have hP3 := box_step hPd hb3
            have B3 : Below w0.heap.size wc w3 := hBd.trans (hb3.mono (Nat.le_trans hlc hzd))
            obtain ⟨o3, -, -, -⟩ := box2_cell hP3
            refine hK.out _ _ (s9 B3) (fun hHeld => ?_)
            clear hK Kk
            refine wpAnyH_take (i := 6) (oi := Oper.mk (some 50) _ _ _ _ _) (v := ?v45) rfl (by kernel_rfl) (by kernel_rfl) (by kernel_rfl) (fun _ _ _ h => h) (Or.inl ⟨by rfl, ?y45⟩) hHeld ?r45
            case y45 => (intro W hSW; obtain ⟨q0, q1, q2⟩ := hSW; go_simp; try with_reducible rfl)
            simp only [Act.put, List.setIfInBounds_toArray, List.set_cons_zero, List.set_cons_succ]
            refine wpAnyH_ready (rs := [7]) (by kernel_rfl) (by simp) (AllReadyH.cons (o := Oper.mk (some 51) _ _ _ _ _) rfl (fun Kk hK => ?_) AllReadyH.nil)
            go_simp
            have ba4 := below_al w3 (.cells #[.int .i64 nx, .string kd, .slice a' M.length c'] 54)
            have hbr4 := hb3.trans (ba4.mono hb3.size)
            have hnew4 : NewV _ wd.heap.size a' c' M := hnew.later ba4
            have HSrc := hide (srcI w3 ⟨nx, kd, a', c', M⟩)
            have HO4 := hide (ownsRow_below hOd hbr4)
            have hP4 := box_step hPd hbr4
            have B4 : Below w0.heap.size wc _ := hBd.trans (hbr4.mono (Nat.le_trans hlc hzd))
            obtain ⟨o4, -, -, -⟩ := box2_cell hP4
            refine hK.out _ _ (s9 B4) (fun hHeld => ?_)
            clear hK Kk
            refine wpAnyH_ready (rs := [8]) (by kernel_rfl) (by simp) (AllReadyH.cons (o := Oper.mk (some 52) _ _ _ _ _) rfl (fun Kk hK => ?_) AllReadyH.nil)
            refine step_append_lies _ rfl (.tmp 45) (.tmp 51) 27 rfl 0 54 i0 (.agg #[.int .i64 0, .string ⟨#[]⟩, .slice none 0 0]) 3 48 Tryd.underlying27 hi hz0 hz1 hz2 rfl (by omega) (.slice (some ⟨g, 0, none⟩) n vc) n (rowOf It.cells K) rfl HO4.out ⟨w3.heap.size, 0, none⟩ 1 1 (It.cells ⟨nx, kd, a', c', M⟩) ?hx rfl HSrc.out (oneI _) (by omega) (by unfold maxLen; omega) (by omega) (Nat.zero_le _) _ rfl ?_
            case hx => simp [Act.eval]
            intro g5 c5 w5 ho5 hg5 hat5 hlt5
            rw [rowI_app] at ho5
            have hlo4 : w0.heap.size ≤ (w3.alloc (.cells #[.int .i64 nx, .string kd, .slice a' M.length c'] 54)).heap.size := Nat.le_trans hlc (Nat.le_trans hzd hbr4.size)
            have B5 : Below w0.heap.size wc w5 := B4.grown hg5 hlo4 (fun q e => (HOb.out q e).2.1)
            have hP5 := (hg5.block w1.heap.size (Array.getElem?_eq_some_iff.1 hP4).1 (fun e => (HOb.out w1.heap.size e.symm).2.2 rfl)).trans hP4
            obtain ⟨o5, o51, of0, of1⟩ := box2_cell hP5
            have hg5l : w0.heap.size ≤ g5 := by
              rcases hat5 with e | e
              · exact (HOb.out g5 e).2.1
              · rw [e]; exact hlo4
            have HC4 := hide ((HCd.out ⟨nx, kd, a', c', M⟩).more (K' := K ++ [⟨nx, kd, a', c', M⟩]) (x := ⟨nx, kd, a', c', M⟩) hbr4 (World.grownBy.refl _ _) (fun i hi => iAt_app_lt (by rw [HKn.out]; exact hi)) (by have e := iAt_app_eq K ⟨nx, kd, a', c', M⟩; rw [HKn.out] at e; exact e) (by have e := iAt_app_eq K ⟨nx, kd, a', c', M⟩; rw [HKn.out] at e; rw [e]) (fun hne => by obtain ⟨q, e, h1, o⟩ := hnew4.own hne; exact ⟨q, e, h1, o⟩) hnew4.2 (Nat.le_trans hlc hzd) (Nat.lt_of_lt_of_le hgs hzd))
            have HC5 := hide (HC4.out.rebase (w' := w5) (g' := g5) (fun q hq hne => hg5.block q hq (fun e => hne (HOb.out q e.symm).1)) (by rcases hat5 with e | e; exact .inl (HOb.out g5 e).1; exact .inr (Nat.le_of_eq e.symm)))
            have HLen : Hid ((K ++ [(⟨nx, kd, a', c', M⟩ : It)]).length = n + 1) := by unfold Hid; rw [List.length_append, HKn.out]; rfl
            have HD5 := hide (Copied.done (cp := c5) (by rw [HLen.out]; exact HC5.out) rfl hg5l (by rw [HLen.out]; exact ownsRow_up ho5 hg5l)).1
            have st := box2_set0 hP5 (.slice (some ⟨g5, 0, none⟩) (n + 1) c5)
            have HD6 := hide (HD5.out.other hP5 (fun q hq hne => st.2.block q hq (fun e => hne (Option.some.inj e))))
            have B6 := B5.grown st.2 (Nat.le_trans hlo4 hg5.size) (fun q e => by have e2 : w1.heap.size = q := Option.some.inj e; rw [← e2]; exact hw1)
            refine hK.out _ _ (s9 B5) (fun hHeld => ?_)
            clear hK Kk
            refine wpAnyH_take (i := 9) (oi := Oper.mk (some 53) _ _ _ _ _) (v := ?v46) rfl (by kernel_rfl) (by kernel_rfl) (by kernel_rfl) (fun _ _ _ h => h) (Or.inl ⟨by rfl, ?y46⟩) hHeld ?r46
            case y46 => (intro W hSW; obtain ⟨q0, q1, q2⟩ := hSW; go_simp; try with_reducible rfl)
            simp only [Act.put, List.setIfInBounds_toArray, List.set_cons_zero, List.set_cons_succ]
            refine wpAnyH_ready (rs := [10]) (by kernel_rfl) (by simp) (AllReadyH.cons (o := Oper.mk none _ _ _ _ _) rfl (fun Kk hK => ?_) AllReadyH.nil)
            go_simp
            refine hK.out _ _ (s9 B6) (fun hHeld => ?_)
            clear hK Kk
            refine wpAnyH_done (by kernel_rfl) ?_ _
            clear hHeld
            go_wp2_with fail
            go_meet
            exact ⟨g5, c5, a', c', st.1, HD6.out, B6⟩
          · go_simp
            refine (copyFact_any kd b cb M _ hqd hlM hm).mono ?_
            rintro e w3 ⟨a', c', rfl, hnew, hb3⟩
            have hP3 := box_step hPd hb3
            have B3 : Below w0.heap.size wc w3 := hBd.trans (hb3.mono (Nat.le_trans hlc hzd))
            obtain ⟨o3, -, -, -⟩ := box2_cell hP3
            refine hK.out _ _ (s9 B3) (fun hHeld => ?_)
            clear hK Kk
            refine wpAnyH_take (i := 6) (oi := Oper.mk (some 50) _ _ _ _ _) (v := ?v47) rfl (by kernel_rfl) (by kernel_rfl) (by kernel_rfl) (fun _ _ _ h => h) (Or.inl ⟨by rfl, ?y47⟩) hHeld ?r47
            case y47 => (intro W hSW; obtain ⟨q0, q1, q2⟩ := hSW; go_simp; try with_reducible rfl)
            simp only [Act.put, List.setIfInBounds_toArray, List.set_cons_zero, List.set_cons_succ]
            refine wpAnyH_ready (rs := [1, 7]) (by kernel_rfl) (by simp) (AllReadyH.cons (o := Oper.mk (some 45) _ _ _ _ _) rfl (fun Kk hK => ?_) (AllReadyH.cons (o := Oper.mk (some 51) _ _ _ _ _) rfl (fun Kk hK => ?_) AllReadyH.nil))
            · go_simp
              refine hK.out _ _ (s9 B3) (fun hHeld => ?_)
              clear hK Kk
              refine wpAnyH_ready (rs := [7]) (by kernel_rfl) (by simp) (AllReadyH.cons (o := Oper.mk (some 51) _ _ _ _ _) rfl (fun Kk hK => ?_) AllReadyH.nil)
              go_simp
              have ba4 := below_al w3 (.cells #[.int .i64 nx, .string kd, .slice a' M.length c'] 54)
              have hbr4 := hb3.trans (ba4.mono hb3.size)
              have hnew4 : NewV _ wd.heap.size a' c' M := hnew.later ba4
              have HSrc := hide (srcI w3 ⟨nx, kd, a', c', M⟩)
              have HO4 := hide (ownsRow_below hOd hbr4)
              have hP4 := box_step hPd hbr4
              have B4 : Below w0.heap.size wc _ := hBd.trans (hbr4.mono (Nat.le_trans hlc hzd))
              obtain ⟨o4, -, -, -⟩ := box2_cell hP4
              refine hK.out _ _ (s9 B4) (fun hHeld => ?_)
              clear hK Kk
              refine wpAnyH_ready (rs := [8]) (by kernel_rfl) (by simp) (AllReadyH.cons (o := Oper.mk (some 52) _ _ _ _ _) rfl (fun Kk hK => ?_) AllReadyH.nil)
              refine step_append_lies _ rfl (.tmp 45) (.tmp 51) 27 rfl 0 54 i0 (.agg #[.int .i64 0, .string ⟨#[]⟩, .slice none 0 0]) 3 48 Tryd.underlying27 hi hz0 hz1 hz2 rfl (by omega) (.slice (some ⟨g, 0, none⟩) n vc) n (rowOf It.cells K) rfl HO4.out ⟨w3.heap.size, 0, none⟩ 1 1 (It.cells ⟨nx, kd, a', c', M⟩) ?hx rfl HSrc.out (oneI _) (by omega) (by unfold maxLen; omega) (by omega) (Nat.zero_le _) _ rfl ?_
              case hx => simp [Act.eval]
              intro g5 c5 w5 ho5 hg5 hat5 hlt5
              rw [rowI_app] at ho5
              have hlo4 : w0.heap.size ≤ (w3.alloc (.cells #[.int .i64 nx, .string kd, .slice a' M.length c'] 54)).heap.size := Nat.le_trans hlc (Nat.le_trans hzd hbr4.size)
              have B5 : Below w0.heap.size wc w5 := B4.grown hg5 hlo4 (fun q e => (HOb.out q e).2.1)
              have hP5 := (hg5.block w1.heap.size (Array.getElem?_eq_some_iff.1 hP4).1 (fun e => (HOb.out w1.heap.size e.symm).2.2 rfl)).trans hP4
              obtain ⟨o5, o51, of0, of1⟩ := box2_cell hP5
              have hg5l : w0.heap.size ≤ g5 := by
                rcases hat5 with e | e
                · exact (HOb.out g5 e).2.1
                · rw [e]; exact hlo4
              have HC4 := hide ((HCd.out ⟨nx, kd, a', c', M⟩).more (K' := K ++ [⟨nx, kd, a', c', M⟩]) (x := ⟨nx, kd, a', c', M⟩) hbr4 (World.grownBy.refl _ _) (fun i hi => iAt_app_lt (by rw [HKn.out]; exact hi)) (by have e := iAt_app_eq K ⟨nx, kd, a', c', M⟩; rw [HKn.out] at e; exact e) (by have e := iAt_app_eq K ⟨nx, kd, a', c', M⟩; rw [HKn.out] at e; rw [e]) (fun hne => by obtain ⟨q, e, h1, o⟩ := hnew4.own hne; exact ⟨q, e, h1, o⟩) hnew4.2 (Nat.le_trans hlc hzd) (Nat.lt_of_lt_of_le hgs hzd))
              have HC5 := hide (HC4.out.rebase (w' := w5) (g' := g5) (fun q hq hne => hg5.block q hq (fun e => hne (HOb.out q e.symm).1)) (by rcases hat5 with e | e; exact .inl (HOb.out g5 e).1; exact .inr (Nat.le_of_eq e.symm)))
              have HLen : Hid ((K ++ [(⟨nx, kd, a', c', M⟩ : It)]).length = n + 1) := by unfold Hid; rw [List.length_append, HKn.out]; rfl
              have HD5 := hide (Copied.done (cp := c5) (by rw [HLen.out]; exact HC5.out) rfl hg5l (by rw [HLen.out]; exact ownsRow_up ho5 hg5l)).1
              have st := box2_set0 hP5 (.slice (some ⟨g5, 0, none⟩) (n + 1) c5)
              have HD6 := hide (HD5.out.other hP5 (fun q hq hne => st.2.block q hq (fun e => hne (Option.some.inj e))))
              have B6 := B5.grown st.2 (Nat.le_trans hlo4 hg5.size) (fun q e => by have e2 : w1.heap.size = q := Option.some.inj e; rw [← e2]; exact hw1)
              refine hK.out _ _ (s9 B5) (fun hHeld => ?_)
              clear hK Kk
              refine wpAnyH_take (i := 9) (oi := Oper.mk (some 53) _ _ _ _ _) (v := ?v48) rfl (by kernel_rfl) (by kernel_rfl) (by kernel_rfl) (fun _ _ _ h => h) (Or.inl ⟨by rfl, ?y48⟩) hHeld ?r48
              case y48 => (intro W hSW; obtain ⟨q0, q1, q2⟩ := hSW; go_simp; try with_reducible rfl)
              simp only [Act.put, List.setIfInBounds_toArray, List.set_cons_zero, List.set_cons_succ]
              refine wpAnyH_ready (rs := [10]) (by kernel_rfl) (by simp) (AllReadyH.cons (o := Oper.mk none _ _ _ _ _) rfl (fun Kk hK => ?_) AllReadyH.nil)
              go_simp
              refine hK.out _ _ (s9 B6) (fun hHeld => ?_)
              clear hK Kk
              refine wpAnyH_done (by kernel_rfl) ?_ _
              clear hHeld
              go_wp2_with fail
              go_meet
              exact ⟨g5, c5, a', c', st.1, HD6.out, B6⟩
            · go_simp
              have ba4 := below_al w3 (.cells #[.int .i64 nx, .string kd, .slice a' M.length c'] 54)
              have hbr4 := hb3.trans (ba4.mono hb3.size)
              have hnew4 : NewV _ wd.heap.size a' c' M := hnew.later ba4
              have HSrc := hide (srcI w3 ⟨nx, kd, a', c', M⟩)
              have HO4 := hide (ownsRow_below hOd hbr4)
              have hP4 := box_step hPd hbr4
              have B4 : Below w0.heap.size wc _ := hBd.trans (hbr4.mono (Nat.le_trans hlc hzd))
              obtain ⟨o4, -, -, -⟩ := box2_cell hP4
              refine hK.out _ _ (s9 B4) (fun hHeld => ?_)
              clear hK Kk
              refine wpAnyH_ready (rs := [1]) (by kernel_rfl) (by simp) (AllReadyH.cons (o := Oper.mk (some 45) _ _ _ _ _) rfl (fun Kk hK => ?_) AllReadyH.nil)
              go_simp
              refine hK.out _ _ (s9 B4) (fun hHeld => ?_)
              clear hK Kk
              refine wpAnyH_ready (rs := [8]) (by kernel_rfl) (by simp) (AllReadyH.cons (o := Oper.mk (some 52) _ _ _ _ _) rfl (fun Kk hK => ?_) AllReadyH.nil)
              refine step_append_lies _ rfl (.tmp 45) (.tmp 51) 27 rfl 0 54 i0 (.agg #[.int .i64 0, .string ⟨#[]⟩, .slice none 0 0]) 3 48 Tryd.underlying27 hi hz0 hz1 hz2 rfl (by omega) (.slice (some ⟨g, 0, none⟩) n vc) n (rowOf It.cells K) rfl HO4.out ⟨w3.heap.size, 0, none⟩ 1 1 (It.cells ⟨nx, kd, a', c', M⟩) ?hx rfl HSrc.out (oneI _) (by omega) (by unfold maxLen; omega) (by omega) (Nat.zero_le _) _ rfl ?_
              case hx => simp [Act.eval]
              intro g5 c5 w5 ho5 hg5 hat5 hlt5
              rw [rowI_app] at ho5
              have hlo4 : w0.heap.size ≤ (w3.alloc (.cells #[.int .i64 nx, .string kd, .slice a' M.length c'] 54)).heap.size := Nat.le_trans hlc (Nat.le_trans hzd hbr4.size)
              have B5 : Below w0.heap.size wc w5 := B4.grown hg5 hlo4 (fun q e => (HOb.out q e).2.1)
              have hP5 := (hg5.block w1.heap.size (Array.getElem?_eq_some_iff.1 hP4).1 (fun e => (HOb.out w1.heap.size e.symm).2.2 rfl)).trans hP4
              obtain ⟨o5, o51, of0, of1⟩ := box2_cell hP5
              have hg5l : w0.heap.size ≤ g5 := by
                rcases hat5 with e | e
                · exact (HOb.out g5 e).2.1
                · rw [e]; exact hlo4
              have HC4 := hide ((HCd.out ⟨nx, kd, a', c', M⟩).more (K' := K ++ [⟨nx, kd, a', c', M⟩]) (x := ⟨nx, kd, a', c', M⟩) hbr4 (World.grownBy.refl _ _) (fun i hi => iAt_app_lt (by rw [HKn.out]; exact hi)) (by have e := iAt_app_eq K ⟨nx, kd, a', c', M⟩; rw [HKn.out] at e; exact e) (by have e := iAt_app_eq K ⟨nx, kd, a', c', M⟩; rw [HKn.out] at e; rw [e]) (fun hne => by obtain ⟨q, e, h1, o⟩ := hnew4.own hne; exact ⟨q, e, h1, o⟩) hnew4.2 (Nat.le_trans hlc hzd) (Nat.lt_of_lt_of_le hgs hzd))
              have HC5 := hide (HC4.out.rebase (w' := w5) (g' := g5) (fun q hq hne => hg5.block q hq (fun e => hne (HOb.out q e.symm).1)) (by rcases hat5 with e | e; exact .inl (HOb.out g5 e).1; exact .inr (Nat.le_of_eq e.symm)))
              have HLen : Hid ((K ++ [(⟨nx, kd, a', c', M⟩ : It)]).length = n + 1) := by unfold Hid; rw [List.length_append, HKn.out]; rfl
              have HD5 := hide (Copied.done (cp := c5) (by rw [HLen.out]; exact HC5.out) rfl hg5l (by rw [HLen.out]; exact ownsRow_up ho5 hg5l)).1
              have st := box2_set0 hP5 (.slice (some ⟨g5, 0, none⟩) (n + 1) c5)
              have HD6 := hide (HD5.out.other hP5 (fun q hq hne => st.2.block q hq (fun e => hne (Option.some.inj e))))
              have B6 := B5.grown st.2 (Nat.le_trans hlo4 hg5.size) (fun q e => by have e2 : w1.heap.size = q := Option.some.inj e; rw [← e2]; exact hw1)
              refine hK.out _ _ (s9 B5) (fun hHeld => ?_)
              clear hK Kk
              refine wpAnyH_take (i := 9) (oi := Oper.mk (some 53) _ _ _ _ _) (v := ?v49) rfl (by kernel_rfl) (by kernel_rfl) (by kernel_rfl) (fun _ _ _ h => h) (Or.inl ⟨by rfl, ?y49⟩) hHeld ?r49
              case y49 => (intro W hSW; obtain ⟨q0, q1, q2⟩ := hSW; go_simp; try with_reducible rfl)
              simp only [Act.put, List.setIfInBounds_toArray, List.set_cons_zero, List.set_cons_succ]
              refine wpAnyH_ready (rs := [10]) (by kernel_rfl) (by simp) (AllReadyH.cons (o := Oper.mk none _ _ _ _ _) rfl (fun Kk hK => ?_) AllReadyH.nil)
              go_simp
              refine hK.out _ _ (s9 B6) (fun hHeld => ?_)
              clear hK Kk
              refine wpAnyH_done (by kernel_rfl) ?_ _
              clear hHeld
              go_wp2_with fail
              go_meet
              exact ⟨g5, c5, a', c', st.1, HD6.out, B6⟩
        case rest =>
        obtain ⟨g5, c5, a', c', hPe, hHe, hbe⟩ := hcut
        clear a0 a1
        have hAe := (hbe.block w.heap.size (by omega)).trans hAc
        have hRe := (hbe.block (w.heap.size + 1 + 1) (by omega)).trans hRc
        have hBe := hBc.trans (hbe.mono (by omega))
        obtain ⟨p0, p1, pf0, pf1⟩ := box2_cell hPe
        have st2 := box2_set1 hPe (.int .i64 (nx + 1))
        have hHf := hHe.other hPe (w' := wc.setCell ⟨w1.heap.size, 1, none⟩ (.int .i64 (nx + 1))) (fun q hq hne => st2.2.block q hq (fun e => hne (Option.some.inj e)))
        have hAf := box_gr hAe st2.2 (by omega)
        have hRf := box_gr hRe st2.2 (by omega)
        have hBf := hBe.grown st2.2 hBe.size (fun q e => by have e2 : w1.heap.size = q := Option.some.inj e; omega)
        have HLen : Hid ((K ++ [(⟨nx, kd, a', c', M⟩ : It)]).length = n + 1) := by unfold Hid; rw [List.length_append, HKn.out]; rfl
        have hVf : HV (wc.setCell ⟨w1.heap.size, 1, none⟩ (.int .i64 (nx + 1))) w0.heap.size (n + 1) (some ⟨g5, 0, none⟩) c5 (K ++ [⟨nx, kd, a', c', M⟩]) := .inr ⟨g5, rfl, hHf⟩
        have hPf := st2.1
        have hnx1 : nx + 1 ≤ 1000001 := by omega
        clear hPc hAc hFc hRc hVc hqc hBc hbc HCop HOb hown2 s9 B0 hbe hAe hRe hBe hHe hHf
        go_upto_region 11 with fail
        generalize wc.setCell ⟨w1.heap.size, 1, none⟩ (.int .i64 (nx + 1)) = wf at st2 hAf hRf hBf hVf hPf ⊢
        clear p0 p1 pf0 pf1 st2
        obtain ⟨p0, p1, -, -⟩ := box2_cell hPf
        obtain ⟨a0, a1, -, -⟩ := box2_cell hAf
        have hbd : Below wf.heap.size wf wf.drew := (Below.refl _ _).drew
        have hRd := box_step hRf hbd
        have hBd := hBf.trans (hbd.mono hBf.size)
        have hVd := hVf.later hbd
        have hzd : wf.heap.size ≤ wf.drew.heap.size := hbd.size
        have hSd : wf.drew.cell? ⟨w1.heap.size, 0, none⟩ = some (.slice (some ⟨g5, 0, none⟩) (n + 1) c5) ∧ wf.drew.cell? ⟨w1.heap.size, 1, none⟩ = some (.int .i64 (nx + 1)) ∧ wf.drew.cell? ⟨w.heap.size, 1, none⟩ = some (.int .i64 nx) := ⟨p0, p1, a1⟩
        refine wp_region_held_drew (S := fun W => W.cell? ⟨w1.heap.size, 0, none⟩ = some (.slice (some ⟨g5, 0, none⟩) (n + 1) c5) ∧ W.cell? ⟨w1.heap.size, 1, none⟩ = some (.int .i64 (nx + 1)) ∧ W.cell? ⟨w.heap.size, 1, none⟩ = some (.int .i64 nx)) (by kernel_rfl) hSd (fun hHeld => ?_)
        generalize wf.drew = wd at hbd hRd hBd hVd hzd hSd hHeld ⊢
        obtain ⟨s0, s1, s2⟩ := hSd
        refine wpAnyH_take (i := 0) (oi := Oper.mk (some 58) _ _ _ _ _) (v := ?v50) rfl (by kernel_rfl) (by kernel_rfl) (by kernel_rfl) (fun _ _ _ h => h) (Or.inl ⟨by rfl, ?y50⟩) hHeld ?r50
        case y50 => (intro W hSW; obtain ⟨q0, q1, q2⟩ := hSW; go_simp; try with_reducible rfl)
        simp only [Act.put, List.setIfInBounds_toArray, List.set_cons_zero, List.set_cons_succ]
        refine wpAnyH_take (i := 1) (oi := Oper.mk (some 59) _ _ _ _ _) (v := ?v51) rfl (by kernel_rfl) (by kernel_rfl) (by kernel_rfl) (fun _ _ _ h => h) (Or.inl ⟨by rfl, ?y51⟩) hHeld ?r51
        case y51 => (intro W hSW; obtain ⟨q0, q1, q2⟩ := hSW; go_simp; try with_reducible rfl)
        simp only [Act.put, List.setIfInBounds_toArray, List.set_cons_zero, List.set_cons_succ]
        refine wpAnyH_take (i := 2) (oi := Oper.mk (some 60) _ _ _ _ _) (v := ?v52) rfl (by kernel_rfl) (by kernel_rfl) (by kernel_rfl) (fun _ _ _ h => h) (Or.inl ⟨by rfl, ?y52⟩) hHeld ?r52
        case y52 => (intro W hSW; obtain ⟨q0, q1, q2⟩ := hSW; go_simp; try with_reducible rfl)
        simp only [Act.put, List.setIfInBounds_toArray, List.set_cons_zero, List.set_cons_succ]
        refine wpAnyH_ready (rs := [3]) (by kernel_rfl) (by simp) (AllReadyH.cons (o := Oper.mk none _ _ _ _ _) rfl (fun Kk hK => ?_) AllReadyH.nil)
        obtain ⟨r0, r1, rf0, rf1⟩ := box2_cell hRd
        have st := box2_set hRd (.slice (some ⟨g5, 0, none⟩) (n + 1) c5) (.int .i64 (nx + 1))
        go_simp
        refine hK.out _ _ ?sk (fun hHeld => ?_)
        case sk => exact ⟨cell_gr st.2 s0 (by omega), cell_gr st.2 s1 (by omega), cell_gr st.2 s2 (by omega)⟩
        clear hK Kk
        refine wpAnyH_take (i := 4) (oi := Oper.mk (some 5) _ _ _ _ _) (v := ?v53) rfl (by kernel_rfl) (by kernel_rfl) (by kernel_rfl) (fun _ _ _ h => h) (Or.inl ⟨by rfl, ?y53⟩) hHeld ?r53
        case y53 => (intro W hSW; obtain ⟨q0, q1, q2⟩ := hSW; go_simp; try with_reducible rfl)
        simp only [Act.put, List.setIfInBounds_toArray, List.set_cons_zero, List.set_cons_succ]
        refine wpAnyH_take (i := 5) (oi := Oper.mk (some 6) _ _ _ _ _) (v := ?v54) rfl (by kernel_rfl) (by kernel_rfl) (by kernel_rfl) (fun _ _ _ h => h) (Or.inl ⟨by rfl, ?y54⟩) hHeld ?r54
        case y54 => (intro W hSW; obtain ⟨q0, q1, q2⟩ := hSW; go_simp; try with_reducible rfl)
        simp only [Act.put, List.setIfInBounds_toArray, List.set_cons_zero, List.set_cons_succ]
        refine wpAnyH_done (by kernel_rfl) ?_ _
        clear hHeld
        go_wp2_with fail
        refine box2_post hRd (fun w5 h5 gr => ?_)
        clear r0 r1 rf0 rf1
        obtain ⟨d0, d1, -, -⟩ := box2_cell h5
        exact bodyPost_ret (v := .tuple #[.agg #[.slice (some ⟨g5, 0, none⟩) (n + 1) c5, .int .i64 (nx + 1)], .int .i64 nx, .bool true]) (by simp [results, Tryd.results15, go_sem, d0, d1]) rfl
          ⟨_, c5, K ++ [⟨nx, kd, a', c', M⟩], by rw [HE.out, HLen.out, decide_eq_true (by omega)], by rw [HLen.out]; exact (hVd.grown gr (by omega)).weaken (by omega), by rw [HE.out, List.map_append, HPl.out]; rfl, below_set hBd gr (by omega)⟩
end Go.Proofs.YtaflokfgbmlmaadDoor
/-
  What FactOf answers, the tested one and the model's alike: a copy of the first item's fact that has this Id, and true; the zero fact and false where there is none.
-/
namespace Go.Proofs.YtaflokfgbmlmaadDoor
open Go.RowKit
set_option linter.unusedVariables false

/-- the fact of the first item of this Id -/
def facP : List P4 → Int → Option (ByteArray × List V3)
  | [], _ => none
  | p :: r, id => if p.id = id then some (p.kd, p.L) else facP r id
theorem facP_hit {id : Int} : ∀ {J : List It} {k : Nat}, k < J.length → (∀ j, j < k → (iAt J j).id ≠ id) → (iAt J k).id = id → facP (J.map It.pl) id = some ((iAt J k).kd, (iAt J k).L)
  | [], k, h, _, _ => absurd h (Nat.not_lt_zero _)
  | x :: r, 0, h, _, hs => by
    have e : iAt (x :: r) 0 = x := rfl
    rw [e] at hs ⊢
    show (if x.id = id then _ else _) = _
    rw [if_pos hs]; rfl
  | x :: r, k + 1, h, hn, hs => by
    have e : ∀ j, iAt (x :: r) (j + 1) = iAt r j := fun j => by simp [iAt, List.getD]
    have h0 := hn 0 (by omega)
    have e0 : iAt (x :: r) 0 = x := rfl
    rw [e0] at h0
    show (if x.id = id then _ else facP (r.map It.pl) id) = _
    rw [if_neg h0, e]
    rw [e] at hs
    exact facP_hit (by simpa using h) (fun j hj => by have := hn (j + 1) (by omega); rw [e] at this; exact this) hs
theorem facP_none {id : Int} : ∀ {J : List It}, (∀ j, j < J.length → (iAt J j).id ≠ id) → facP (J.map It.pl) id = none
  | [], _ => rfl
  | x :: r, hn => by
    have e : ∀ j, iAt (x :: r) (j + 1) = iAt r j := fun j => by simp [iAt, List.getD]
    have h0 := hn 0 (by simp)
    have e0 : iAt (x :: r) 0 = x := rfl
    rw [e0] at h0
    show (if x.id = id then _ else facP (r.map It.pl) id) = _
    rw [if_neg h0]
    exact facP_none (fun j hj => by have := hn (j + 1) (by simpa using hj); rw [e] at this; exact this)
/-- what is answered, none being the zero fact -/
def ansP (o : Option (ByteArray × List V3)) : ByteArray × List V3 × Bool := match o with
  | some (kd, L) => (kd, L, true)
  | none => (⟨#[]⟩, [], false)
/-- a fact is answered, its values in a row of the call's own -/
def GivesF (e : Ending) (w : World) (base : Nat) (r : ByteArray × List V3 × Bool) : Prop := ∃ a c, e = .returned (.tuple #[.agg #[.string r.1, .slice a r.2.1.length c], .bool r.2.2]) ∧ NewV w base a c r.2.1

set_option maxRecDepth 100000 in
set_option maxHeartbeats 3200000 in
theorem implFactOf_any (a : Option Addr) (n cap : Nat) (nx id : Int) (J : List It) (w : World) (hr : RdI w a J) (hJ : J.length = n) (hn : n ≤ 1048580) (hl : ∀ i, i < J.length → (iAt J i).L.length ≤ 1048580) (hli : ∀ i, i < J.length → LieV (iAt J i).a (iAt J i).L.length (iAt J i).cap) :
    Calls Tryd.prog 23 #[.agg #[.slice a n cap, .int .i64 nx], .int .i64 id] w fun e w' => GivesF e w' w.heap.size (ansP (facP (J.map It.pl) id)) ∧ Below w.heap.size w w' := by
  have HJ := hide hJ
  have HL := hide hl
  have HLi := hide hli
  clear hJ hl hli
  have b0 := below_al w (.cells #[.slice a n cap, .int .i64 nx] 29)
  have b1 := b0.alloc b0.size (.cells #[.string ⟨#[]⟩, .slice none 0 0] 41)
  have hR := box2_new (w.alloc (.cells #[.slice a n cap, .int .i64 nx] 29)) (.string ⟨#[]⟩) (.slice none 0 0) 41
  simp only [World.size_alloc] at hR
  replace hr := hr.below b1
  have HR := hide hR
  go_enter Tryd.func23, Tryd.ntmps23
  go_wp2
  generalize (w.alloc (.cells #[.slice a n cap, .int .i64 nx] 29)).alloc (.cells #[.string ⟨#[]⟩, .slice none 0 0] 41) = w1 at b1 hr HR ⊢
  clear b0 hR
  go_loopw [11] (fun i wr => ∃ (k : Nat), k ≤ n ∧ i = .int .i64 k ∧ (∀ j, j < k → (iAt J j).id ≠ id) ∧ Below w1.heap.size w1 wr) (fun i _ => n - (intOf i).toNat)
  case atStart => exact ⟨0, Nat.zero_le _, rfl, fun j hj => absurd hj (Nat.not_lt_zero _), Below.refl _ _⟩
  case round =>
    obtain ⟨k, hk, rfl, hno, hbel⟩ := hrel
    have HNo := hide hno
    clear hno
    have hB : Below w.heap.size w wr := b1.trans (hbel.mono b1.size)
    have HRr := hide (box_step HR.out hbel)
    by_cases hlt : k < n
    · obtain ⟨b2, o2, e2, hbw2, hc2⟩ := (hr.below hbel).open (by rw [HJ.out]; omega)
      obtain ⟨c0, c1, c2, hv⟩ := hc2 k (by rw [HJ.out]; exact hlt)
      have HLk := hide (HL.out k (by rw [HJ.out]; exact hlt))
      have HLik := hide (HLi.out k (by rw [HJ.out]; exact hlt))
      have HHit := hide (facP_hit (id := id) (k := k) (J := J) (by rw [HJ.out]; exact hlt) HNo.out)
      clear hc2
      subst e2
      obtain ⟨x, hx⟩ : ∃ x, x = iAt J k := ⟨_, rfl⟩
      rw [← hx] at c0 c1 c2 hv HLk HLik HHit
      have HX := hide hx
      clear hx
      obtain ⟨id', kd', va, vc, L⟩ := x
      simp only at c0 c1 c2 hv HLk HLik HHit
      have ba := below_al wr (.cells #[.int .i64 id', .string kd', .slice va L.length vc] 54)
      have hba : Below w1.heap.size w1 (wr.alloc (.cells #[.int .i64 id', .string kd', .slice va L.length vc] 54)) := hbel.trans (ba.mono hbel.size)
      cases hs : (id' == id)
      · go_wp2
        go_roundw
        case rel => exact ⟨k + 1, by omega, by go_num, fun j hj => by
          by_cases hjk : j = k
          · rw [hjk, ← HX.out]; simpa using hs
          · exact HNo.out j (by omega), hba⟩
        case measure => simp [intOf]; omega
      · have HH := hide (HHit.out (by simpa using hs))
        go_wp2_with fail
        refine (copyFact_any kd' va vc L _ (hv.below ba) HLik.out HLk.out).mono ?_
        rintro e w2 ⟨a', c', rfl, hv2, hb2⟩
        have hb3 : Below wr.heap.size wr w2 := ba.trans (hb2.mono ba.size)
        have hB2 : Below w.heap.size w w2 := hB.trans (hb3.mono hB.size)
        have hR2 := box_step HRr.out hb3
        obtain ⟨z0, z1, zf0, zf1⟩ := box2_cell hR2
        have hgz := (Array.getElem?_eq_some_iff.1 HRr.out).1
        have hws := hB.size
        clear hb2 ba hba c0 c1 c2 hv
        go_wp2
        refine box2_post hR2 (fun w4 h4 gr => ?_)
        clear z0 z1 zf0 zf1
        obtain ⟨d0, d1, -, -⟩ := box2_cell h4
        exact bodyPost_ret (v := .tuple #[.agg #[.string kd', .slice a' L.length c'], .bool true]) (by simp [results, Tryd.results23, go_sem, d0, d1]) rfl
          ⟨by rw [HH.out]; exact ⟨a', c', rfl, (hv2.grown gr (by simp; omega)).low (by simp; omega)⟩, below_set hB2 gr (by omega)⟩
    · have HH : Hid (facP (J.map It.pl) id = none) := facP_none (fun j hj => HNo.out j (by rw [HJ.out] at hj; omega))
      obtain ⟨z0, z1, zf0, zf1⟩ := box2_cell HRr.out
      go_wp2
      refine box2_post HRr.out (fun w4 h4 gr => ?_)
      clear z0 z1 zf0 zf1
      obtain ⟨d0, d1, -, -⟩ := box2_cell h4
      exact bodyPost_ret (v := .tuple #[.agg #[.string ⟨#[]⟩, .slice none 0 0], .bool false]) (by simp [results, Tryd.results23, go_sem, d0, d1]) rfl
        ⟨by rw [HH.out]; exact ⟨none, 0, rfl, NewV.nil _ _⟩, below_set hB gr (by omega)⟩
end Go.Proofs.YtaflokfgbmlmaadDoor
/-
  Plainly: what asserting leaves is right, is found, and is left alone when asserted again.
-/
namespace Go.Proofs.YtaflokfgbmlmaadDoor
open Go.RowKit
set_option linter.unusedVariables false

theorem sameF_eq {kd kd' : ByteArray} {L M : List V3} (h : sameF kd L kd' M = true) : kd = kd' ∧ L = M := by
  unfold sameF at h
  simpa using h
theorem sameF_self (kd : ByteArray) (L : List V3) : sameF kd L kd L = true := by simp [sameF]
/-- a fact that is found stands at some item; one that isn't stands at none -/
theorem idP_cases {J : List It} (hid : ∀ k, k < J.length → 1 ≤ (iAt J k).id) (kd : ByteArray) (M : List V3) :
    (idP (J.map It.pl) kd M = 0 ∧ ∀ k, k < J.length → (iAt J k).same kd M = false) ∨ ∃ k, k < J.length ∧ idP (J.map It.pl) kd M = (iAt J k).id ∧ (iAt J k).kd = kd ∧ (iAt J k).L = M := by
  by_cases h : ∃ k, k < J.length ∧ (iAt J k).same kd M = true
  · right
    have key : ∀ n k, k ≤ n → k < J.length → (iAt J k).same kd M = true → ∃ m, m < J.length ∧ (iAt J m).same kd M = true ∧ ∀ q, q < m → (iAt J q).same kd M = false := by
      intro n
      induction n with
      | zero => intro k hk hl hs; exact ⟨k, hl, hs, fun q hq => by omega⟩
      | succ n ih =>
        intro k hk hl hs
        by_cases e : ∃ q, q < k ∧ (iAt J q).same kd M = true
        · obtain ⟨q, hq, hqs⟩ := e
          exact ih q (by omega) (by omega) hqs
        · exact ⟨k, hl, hs, fun q hq => by
            cases h2 : (iAt J q).same kd M
            · rfl
            · exact absurd ⟨q, hq, h2⟩ e⟩
    obtain ⟨k, hk, hs⟩ := h
    obtain ⟨m, hm, hms, hmn⟩ := key k k (Nat.le_refl _) hk hs
    have e := sameF_eq (show sameF (iAt J m).kd (iAt J m).L kd M = true from hms)
    exact ⟨m, hm, idP_hit hm hmn hms, e.1, e.2⟩
  · left
    have h2 : ∀ k, k < J.length → (iAt J k).same kd M = false := fun k hk => by
      cases h3 : (iAt J k).same kd M
      · rfl
      · exact absurd ⟨k, hk, h3⟩ h
    exact ⟨idP_none h2, h2⟩
/-- where the numbers ascend each is found at its own item -/
theorem facP_own {J : List It} {nx : Int} (h : ∀ k, k < J.length → okAt J nx k) {k : Nat} (hk : k < J.length) : facP (J.map It.pl) (iAt J k).id = some ((iAt J k).kd, (iAt J k).L) :=
  facP_hit hk (fun j hj e => by have := (ids_up (Nat.le_refl _) h).2 j k hj hk; omega) rfl
/-- one item more at the end -/
theorem right_more {J K : List It} {nx : Int} {kd : ByteArray} {M : List V3} (hr : Right nx J) (hf : factB kd M = true) (hn : nx < 1000000) (hl : J.length < 40) (hno : ∀ k, k < J.length → (iAt J k).same kd M = false) (hK : K.map It.pl = J.map It.pl ++ [⟨nx, kd, M⟩]) :
    Right (nx + 1) K := by
  have hlen : K.length = J.length + 1 := by have := congrArg List.length hK; simpa using this
  have hat : ∀ i, i < J.length → (iAt K i).pl = (iAt J i).pl := fun i hi => by
    have h1 : (K.map It.pl)[i]? = some (iAt K i).pl := by rw [List.getElem?_map, List.getElem?_eq_getElem (by omega), iAt_in (by omega)]; rfl
    have h2 : (J.map It.pl ++ [(⟨nx, kd, M⟩ : P4)])[i]? = some (iAt J i).pl := by rw [List.getElem?_append_left (by simpa using hi), List.getElem?_map, List.getElem?_eq_getElem hi, iAt_in hi]; rfl
    rw [hK, h2] at h1
    exact (Option.some.inj h1).symm
  have hend : (iAt K J.length).pl = ⟨nx, kd, M⟩ := by
    have h1 : (K.map It.pl)[J.length]? = some (iAt K J.length).pl := by rw [List.getElem?_map, List.getElem?_eq_getElem (by omega), iAt_in (by omega)]; rfl
    have h2 : (J.map It.pl ++ [(⟨nx, kd, M⟩ : P4)])[J.length]? = some ⟨nx, kd, M⟩ := by rw [List.getElem?_append_right (by simp)]; simp
    rw [hK, h2] at h1
    exact (Option.some.inj h1).symm
  have e1 : ∀ i, i < J.length → (iAt K i).id = (iAt J i).id ∧ (iAt K i).kd = (iAt J i).kd ∧ (iAt K i).L = (iAt J i).L := fun i hi => ⟨congrArg P4.id (hat i hi), congrArg P4.kd (hat i hi), congrArg P4.L (hat i hi)⟩
  have f1 : (iAt K J.length).id = nx := congrArg P4.id hend
  have f2 : (iAt K J.length).kd = kd := congrArg P4.kd hend
  have f3 : (iAt K J.length).L = M := congrArg P4.L hend
  obtain ⟨⟨r1, r2, r3⟩, r4, r5⟩ := hr
  refine ⟨⟨by omega, by omega, by omega⟩, fun k hk => ?_, fun i j hij hj => ?_⟩
  · by_cases hkJ : k < J.length
    · obtain ⟨h1, h2, h3⟩ := r4 k hkJ
      obtain ⟨a1, a2, a3⟩ := e1 k hkJ
      have ep : prevId K k = prevId J k := by
        unfold prevId; split
        · rfl
        · exact (e1 (k - 1) (by omega)).1
      exact ⟨by rw [ep, a1]; exact h1, by rw [a1]; omega, by rw [a2, a3]; exact h3⟩
    · obtain rfl : k = J.length := by omega
      refine ⟨?_, by rw [f1]; omega, by rw [f2, f3]; exact hf⟩
      rw [f1]
      unfold prevId
      split
      · omega
      · rw [(e1 (J.length - 1) (by omega)).1]
        exact (r4 (J.length - 1) (by omega)).2.1
  · by_cases hjJ : j < J.length
    · have := r5 i j hij hjJ
      obtain ⟨a1, a2, a3⟩ := e1 i (by omega)
      obtain ⟨c1, c2, c3⟩ := e1 j hjJ
      unfold It.same at *
      rw [a2, a3, c2, c3]; exact this
    · obtain rfl : j = J.length := by omega
      have := hno i hij
      obtain ⟨a1, a2, a3⟩ := e1 i hij
      unfold It.same at *
      rw [a2, a3, f2, f3]; exact this
/-- what asserting leaves, where it may be -/
theorem asserted_all {J K : List It} {nx : Int} {kd : ByteArray} {M : List V3} (hpos : 0 < (asR nx J kd M).1) (hK : K.map It.pl = (asR nx J kd M).2.2) :
    storeB (asR nx J kd M).2.1 K = true ∧ factB kd M = true ∧ asR (asR nx J kd M).2.1 K kd M = ((asR nx J kd M).1, (asR nx J kd M).2.1, K.map It.pl) ∧ facP (K.map It.pl) (asR nx J kd M).1 = some (kd, M) ∧ idP (K.map It.pl) kd M = (asR nx J kd M).1 ∧ K.length ≤ J.length + 1 ∧ (∀ i, i < J.length → facP (K.map It.pl) (iAt J i).id = some ((iAt J i).kd, (iAt J i).L)) := by
  by_cases hc : storeB nx J = true ∧ factB kd M = true
  · have eA : asR nx J kd M = assP (J.map It.pl) nx kd M := by unfold asR; rw [if_pos hc]
    rw [eA] at hpos hK ⊢
    have hR := storeB_iff.1 hc.1
    have hids := ids_up (Nat.le_refl J.length) hR.2.1
    rcases idP_cases hids.1 kd M with ⟨h0, hno⟩ | ⟨k, hk, hid, hkd, hL⟩
    · have hge : ¬ (40 ≤ (J.map It.pl).length ∨ 1000000 ≤ nx) := fun hx => by
        unfold assP at hpos
        rw [h0, if_neg (by omega), if_pos hx] at hpos
        simp at hpos
      have eP : assP (J.map It.pl) nx kd M = (nx, nx + 1, J.map It.pl ++ [⟨nx, kd, M⟩]) := by unfold assP; rw [h0, if_neg (by omega), if_neg hge]
      rw [eP] at hK ⊢
      rw [List.length_map] at hge
      have hK' : K.map It.pl = J.map It.pl ++ [⟨nx, kd, M⟩] := hK
      have hRK : Right (nx + 1) K := right_more hR hc.2 (by omega) (by omega) hno hK'
      have hlen : K.length = J.length + 1 := by have := congrArg List.length hK'; simpa using this
      have hend : (iAt K J.length).pl = ⟨nx, kd, M⟩ := by
        have h1 : (K.map It.pl)[J.length]? = some (iAt K J.length).pl := by rw [List.getElem?_map, List.getElem?_eq_getElem (by omega), iAt_in (by omega)]; rfl
        rw [hK'] at h1
        rw [List.getElem?_append_right (by simp)] at h1
        simp only [List.length_map, Nat.sub_self, List.getElem?_cons_zero] at h1
        exact (Option.some.inj h1).symm
      have hat : ∀ i, i < J.length → (iAt K i).pl = (iAt J i).pl := fun i hi => by
        have h1 : (K.map It.pl)[i]? = some (iAt K i).pl := by rw [List.getElem?_map, List.getElem?_eq_getElem (by omega), iAt_in (by omega)]; rfl
        rw [hK', List.getElem?_append_left (by simpa using hi), List.getElem?_map, List.getElem?_eq_getElem hi] at h1
        rw [iAt_in hi]
        exact (Option.some.inj h1).symm
      have f1 : (iAt K J.length).id = nx := congrArg P4.id hend
      have f2 : (iAt K J.length).kd = kd := congrArg P4.kd hend
      have f3 : (iAt K J.length).L = M := congrArg P4.L hend
      have hidK : idP (K.map It.pl) kd M = nx := by
        have := idP_own hRK.2.2 (k := J.length) (by omega)
        rw [f1, f2, f3] at this
        exact this
      have hnx0 := hR.1.1
      refine ⟨storeB_yes hRK, hc.2, ?_, ?_, hidK, by omega, fun i hi => ?_⟩
      · have : asR (nx + 1) K kd M = assP (K.map It.pl) (nx + 1) kd M := by unfold asR; rw [if_pos ⟨storeB_yes hRK, hc.2⟩]
        show asR (nx + 1) K kd M = _
        rw [this]
        unfold assP
        rw [hidK, if_pos (by omega)]
      · have := facP_own hRK.2.1 (k := J.length) (by omega)
        rw [f1, f2, f3] at this
        exact this
      · have := facP_own hRK.2.1 (k := i) (by omega)
        rw [show (iAt K i).id = (iAt J i).id from congrArg P4.id (hat i hi), show (iAt K i).kd = (iAt J i).kd from congrArg P4.kd (hat i hi), show (iAt K i).L = (iAt J i).L from congrArg P4.L (hat i hi)] at this
        exact this
    · have hip : 0 < idP (J.map It.pl) kd M := by have := hids.1 k hk; omega
      have eP : assP (J.map It.pl) nx kd M = (idP (J.map It.pl) kd M, nx, J.map It.pl) := by unfold assP; rw [if_pos hip]
      rw [eP] at hK ⊢
      have hK' : K.map It.pl = J.map It.pl := hK
      have hlen : K.length = J.length := by have := congrArg List.length hK'; simpa using this
      have hsK : storeB nx K = true := by rw [storeB_pl hK']; exact hc.1
      refine ⟨hsK, hc.2, ?_, ?_, by rw [hK'], by omega, fun i hi => by rw [hK']; exact facP_own hR.2.1 hi⟩
      · have : asR nx K kd M = assP (K.map It.pl) nx kd M := by unfold asR; rw [if_pos ⟨hsK, hc.2⟩]
        show asR nx K kd M = _
        rw [this, hK', eP]
      · rw [hK']
        show facP (J.map It.pl) (idP (J.map It.pl) kd M) = _
        rw [hid, facP_own hR.2.1 hk, hkd, hL]
  · exfalso
    unfold asR at hpos
    rw [if_neg hc] at hpos
    simp at hpos
/-- what is refused stays as it was -/
theorem refused {J : List It} {nx : Int} {kd : ByteArray} {M : List V3} (hpos : ¬ 0 < (asR nx J kd M).1) : (asR nx J kd M).1 = 0 ∧ (asR nx J kd M).2.1 = nx ∧ (asR nx J kd M).2.2 = J.map It.pl := by
  by_cases hc : storeB nx J = true ∧ factB kd M = true
  · have eA : asR nx J kd M = assP (J.map It.pl) nx kd M := by unfold asR; rw [if_pos hc]
    rw [eA] at hpos ⊢
    have hR := storeB_iff.1 hc.1
    unfold assP at hpos ⊢
    by_cases h1 : 0 < idP (J.map It.pl) kd M
    · rw [if_pos h1] at hpos; exact absurd h1 hpos
    · rw [if_neg h1] at hpos ⊢
      by_cases h2 : 40 ≤ (J.map It.pl).length ∨ 1000000 ≤ nx
      · rw [if_pos h2]; exact ⟨rfl, rfl, rfl⟩
      · rw [if_neg h2] at hpos
        exact absurd (show (0 : Int) < nx by have := hR.1.1; omega) hpos
  · unfold asR
    rw [if_neg hc]
    exact ⟨rfl, rfl, rfl⟩
end Go.Proofs.YtaflokfgbmlmaadDoor
/-
  The contract of fixed, its cells written out.
-/
namespace Go.Proofs.YtaflokfgbmlmaadDoor
open Go.RowKit
set_option linter.unusedVariables false

theorem fixed_exp (kd : ByteArray) (a : Option Addr) (cap : Nat) (L : List V3) (v0 v1 v2 v3 v4 : V3) (w : World) (hr : RdV w a L) (hn : L.length ≤ 1048580) (hp : pad5 L = [v0, v1, v2, v3, v4]) :
    Calls Tryd.prog 52 #[.agg #[.string kd, .slice a L.length cap]] w fun e w' =>
      e = .returned (.agg #[.string kd, .int .i64 v0.K, .int .i64 v0.N, .string v0.S, .int .i64 v1.K, .int .i64 v1.N, .string v1.S, .int .i64 v2.K, .int .i64 v2.N, .string v2.S, .int .i64 v3.K, .int .i64 v3.N, .string v3.S, .int .i64 v4.K, .int .i64 v4.N, .string v4.S]) ∧ Below w.heap.size w w' := fixed_any kd a cap L v0 v1 v2 v3 v4 w hr hn hp
end Go.Proofs.YtaflokfgbmlmaadDoor
/-
  What the tested sameness answers of facts of unlike kinds.
-/
namespace Go.Proofs.YtaflokfgbmlmaadDoor
open Go.RowKit
set_option linter.unusedVariables false

set_option maxRecDepth 100000 in
set_option maxHeartbeats 64000000 in
theorem implSame_kind (kd kd' : ByteArray) (a b : Option Addr) (ca cb : Nat) (L M : List V3) (v0 v1 v2 v3 v4 u0 u1 u2 u3 u4 : V3) (w : World) (hr : RdV w a L) (hq : RdV w b M) (hn : L.length ≤ 1048580) (hm : M.length ≤ 1048580) (hla : LiesV a L.length ca) (hlb : LiesV b M.length cb) (HPL : Hid (pad5 L = [v0, v1, v2, v3, v4])) (HPM : Hid (pad5 M = [u0, u1, u2, u3, u4])) (hl2 : ((L.length : Int) == (M.length : Int)) = true) (h1 : (kd.toList == kd'.toList) = false) :
    Calls Tryd.prog 24 #[.agg #[.string kd, .slice a L.length ca], .agg #[.string kd', .slice b M.length cb]] w fun e w' =>
      e = .returned (.bool false) ∧ Below w.heap.size w w' := by
  have b0 := below_al w (.cells #[.string kd, .slice a L.length ca] 41)
  have b1 := b0.alloc b0.size (.cells #[.string kd', .slice b M.length cb] 41)
  have T1 : Two w w.heap.size a b L M ((w.alloc (.cells #[.string kd, .slice a L.length ca] 41)).alloc (.cells #[.string kd', .slice b M.length cb] 41)) := ⟨hr.below b1, hq.below b1, b1, b1.size⟩
  have hX := box_old (box2_new w (.string kd) (.slice a L.length ca) 41) (by simp) (.cells #[.string kd', .slice b M.length cb] 41)
  have hY := box2_new (w.alloc (.cells #[.string kd, .slice a L.length ca] 41)) (.string kd') (.slice b M.length cb) 41
  simp only [World.size_alloc] at hX hY
  obtain ⟨x0, x1, -, -⟩ := box2_cell hX
  obtain ⟨y0, y1, -, -⟩ := box2_cell hY
  have hr0 := hr
  clear hX hY b0 b1 hr hq
  clear hr0
  go_enter Tryd.func24, Tryd.ntmps24
  go_wp2_with fail
  generalize (w.alloc (.cells #[.string kd, .slice a L.length ca] 41)).alloc (.cells #[.string kd', .slice b M.length cb] 41) = w1 at x0 x1 y0 y1 T1 ⊢
  go_region_with (first | (go_at_call_of 52 kd; refine (fixed_exp kd _ _ L v0 v1 v2 v3 v4 _ T1.drew.1 hn HPL.out).mono ?_; rintro e w4 ⟨rfl, hb4⟩; obtain ⟨p0, p1, p2, p3, T4⟩ := keepF (below_dr hb4) ⟨x0, x1, y0, y1, T1⟩) | (go_at_call_of 52 kd'; refine (fixed_exp kd' _ _ M u0 u1 u2 u3 u4 _ T4.2.1 hm HPM.out).mono ?_; rintro e w5 ⟨rfl, hb5⟩; obtain ⟨q0, q1, q2, q3, T5⟩ := keepF hb5 ⟨p0, p1, p2, p3, T4⟩))
  all_goals
    go_wp2
    go_ret
    exact ⟨rfl, T5.2.2.1⟩
end Go.Proofs.YtaflokfgbmlmaadDoor
/-
  What the tested sameness answers of facts of one kind whose first five values are unlike.
-/
namespace Go.Proofs.YtaflokfgbmlmaadDoor
open Go.RowKit
set_option linter.unusedVariables false

set_option maxRecDepth 100000 in
set_option maxHeartbeats 64000000 in
theorem implSame_five (kd kd' : ByteArray) (a b : Option Addr) (ca cb : Nat) (L M : List V3) (v0 v1 v2 v3 v4 u0 u1 u2 u3 u4 : V3) (w : World) (hr : RdV w a L) (hq : RdV w b M) (hn : L.length ≤ 1048580) (hm : M.length ≤ 1048580) (hla : LiesV a L.length ca) (hlb : LiesV b M.length cb) (HPL : Hid (pad5 L = [v0, v1, v2, v3, v4])) (HPM : Hid (pad5 M = [u0, u1, u2, u3, u4])) (hl2 : ((L.length : Int) == (M.length : Int)) = true) (h1 : (kd.toList == kd'.toList) = true) (hq5 : ∀ w, (Op.equalIn 9999 86 (.agg #[.int .i64 v0.K, .int .i64 v0.N, .string v0.S, .int .i64 v1.K, .int .i64 v1.N, .string v1.S, .int .i64 v2.K, .int .i64 v2.N, .string v2.S, .int .i64 v3.K, .int .i64 v3.N, .string v3.S, .int .i64 v4.K, .int .i64 v4.N, .string v4.S]) (.agg #[.int .i64 u0.K, .int .i64 u0.N, .string u0.S, .int .i64 u1.K, .int .i64 u1.N, .string u1.S, .int .i64 u2.K, .int .i64 u2.N, .string u2.S, .int .i64 u3.K, .int .i64 u3.N, .string u3.S, .int .i64 u4.K, .int .i64 u4.N, .string u4.S])).run Tryd.prog w = .ok false w) :
    Calls Tryd.prog 24 #[.agg #[.string kd, .slice a L.length ca], .agg #[.string kd', .slice b M.length cb]] w fun e w' =>
      e = .returned (.bool false) ∧ Below w.heap.size w w' := by
  have b0 := below_al w (.cells #[.string kd, .slice a L.length ca] 41)
  have b1 := b0.alloc b0.size (.cells #[.string kd', .slice b M.length cb] 41)
  have T1 : Two w w.heap.size a b L M ((w.alloc (.cells #[.string kd, .slice a L.length ca] 41)).alloc (.cells #[.string kd', .slice b M.length cb] 41)) := ⟨hr.below b1, hq.below b1, b1, b1.size⟩
  have hX := box_old (box2_new w (.string kd) (.slice a L.length ca) 41) (by simp) (.cells #[.string kd', .slice b M.length cb] 41)
  have hY := box2_new (w.alloc (.cells #[.string kd, .slice a L.length ca] 41)) (.string kd') (.slice b M.length cb) 41
  simp only [World.size_alloc] at hX hY
  obtain ⟨x0, x1, -, -⟩ := box2_cell hX
  obtain ⟨y0, y1, -, -⟩ := box2_cell hY
  have hr0 := hr
  clear hX hY b0 b1 hr hq
  clear hr0
  go_enter Tryd.func24, Tryd.ntmps24
  go_wp2_with fail
  generalize (w.alloc (.cells #[.string kd, .slice a L.length ca] 41)).alloc (.cells #[.string kd', .slice b M.length cb] 41) = w1 at x0 x1 y0 y1 T1 ⊢
  go_region_with (first | (go_at_call_of 52 kd; refine (fixed_exp kd _ _ L v0 v1 v2 v3 v4 _ T1.drew.1 hn HPL.out).mono ?_; rintro e w4 ⟨rfl, hb4⟩; obtain ⟨p0, p1, p2, p3, T4⟩ := keepF (below_dr hb4) ⟨x0, x1, y0, y1, T1⟩) | (go_at_call_of 52 kd'; refine (fixed_exp kd' _ _ M u0 u1 u2 u3 u4 _ T4.2.1 hm HPM.out).mono ?_; rintro e w5 ⟨rfl, hb5⟩; obtain ⟨q0, q1, q2, q3, T5⟩ := keepF hb5 ⟨p0, p1, p2, p3, T4⟩))
  all_goals
    go_wp2
    go_ret
    exact ⟨rfl, T5.2.2.1⟩
end Go.Proofs.YtaflokfgbmlmaadDoor
