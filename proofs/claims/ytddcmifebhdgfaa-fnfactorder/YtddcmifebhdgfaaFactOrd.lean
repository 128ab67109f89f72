/-
  The order of facts, plainly: of two unlike ones just one is less; what is less than what is less is less.
-/
import Derived.Test.YtddcmifebhdgfaaFactL
namespace Go.Proofs.Ytddcmifebhdgfaa
open Go.RowKit
set_option linter.unusedVariables false

theorem u8_lt {a b : UInt8} : a < b ↔ a.toNat < b.toNat := UInt8.lt_iff_toNat_lt
theorem bl_cons (a b : UInt8) (x y : List UInt8) : Op.bytesLess (a :: x) (b :: y) = true ↔ a.toNat < b.toNat ∨ (a = b ∧ Op.bytesLess x y = true) := by
  by_cases h1 : a < b
  · have := u8_lt.1 h1
    simp [Op.bytesLess, h1, this]
  · have h2 : ¬ a.toNat < b.toNat := fun h => h1 (u8_lt.2 h)
    by_cases h3 : a = b
    · subst h3
      simp [Op.bytesLess, h1]
    · simp [Op.bytesLess, h1, h2, h3]
theorem bl_trans : ∀ x y z : List UInt8, Op.bytesLess x y = true → Op.bytesLess y z = true → Op.bytesLess x z = true
  | [], [], _, h, _ => by simp [Op.bytesLess] at h
  | [], b :: y, [], _, h => by simp [Op.bytesLess] at h
  | [], b :: y, c :: z, _, _ => rfl
  | a :: x, [], _, h, _ => by simp [Op.bytesLess] at h
  | a :: x, b :: y, [], _, h => by simp [Op.bytesLess] at h
  | a :: x, b :: y, c :: z, h1, h2 => by
    rw [bl_cons] at h1 h2 ⊢
    rcases h1 with h1 | ⟨rfl, h1⟩
    · rcases h2 with h2 | ⟨rfl, h2⟩
      · left; omega
      · left; exact h1
    · rcases h2 with h2 | ⟨rfl, h2⟩
      · left; exact h2
      · right; exact ⟨rfl, bl_trans x y z h1 h2⟩

theorem lessB_iff (K N : Int) (S : ByteArray) (K' N' : Int) (S' : ByteArray) : lessB K N S K' N' S' = true ↔ K < K' ∨ (K = K' ∧ (N < N' ∨ (N = N' ∧ Op.bytesLess S.toList S'.toList = true))) := by
  unfold lessB
  by_cases hK : K = K'
  · subst hK
    by_cases hN : N = N'
    · subst hN; simp
    · have : (N != N') = true := by simpa using hN
      simp [this, hN]
  · have : (K != K') = true := by simpa using hK
    simp [this, hK]
theorem lessV_trans {a b c : V3} (h1 : a.less b = true) (h2 : b.less c = true) : a.less c = true := by
  unfold V3.less at *
  rw [lessB_iff] at *
  rcases h1 with h1 | ⟨e1, h1⟩
  · rcases h2 with h2 | ⟨e2, _⟩ <;> (left; omega)
  · rcases h2 with h2 | ⟨e2, h2⟩
    · left; omega
    · right
      refine ⟨by omega, ?_⟩
      rcases h1 with h1 | ⟨f1, h1⟩
      · rcases h2 with h2 | ⟨f2, _⟩ <;> (left; omega)
      · rcases h2 with h2 | ⟨f2, h2⟩
        · left; omega
        · right; exact ⟨by omega, bl_trans _ _ _ h1 h2⟩
theorem lessV_tri (a b : V3) : (a = b ∧ a.less b = false ∧ b.less a = false) ∨ (a ≠ b ∧ ((a.less b = true ∧ b.less a = false) ∨ (a.less b = false ∧ b.less a = true))) := by
  rcases order_cases a.K a.N a.S b.K b.N b.S with ⟨h1, h2, h3, h4⟩ | ⟨hd, h⟩
  · obtain rfl : a = b := V3.ext' h1 h2 h3
    exact .inl ⟨rfl, h4, h4⟩
  · refine .inr ⟨fun e => ?_, h⟩
    subst e
    rcases hd with h | ⟨_, h⟩ | ⟨_, _, h⟩ <;> simp at h
theorem lessV_ne {a b : V3} (h : a.less b = true) : a ≠ b := by
  rcases lessV_tri a b with ⟨_, h1, _⟩ | ⟨h1, _⟩
  · rw [h1] at h; cases h
  · exact h1
theorem lessL_cons (v u : V3) (r s : List V3) : lessL (v :: r) (u :: s) = true ↔ (v = u ∧ lessL r s = true) ∨ v.less u = true := by
  show (if v = u then lessL r s else v.less u) = true ↔ _
  by_cases h : v = u
  · rw [if_pos h]
    constructor
    · intro hh; exact .inl ⟨h, hh⟩
    · rintro (⟨_, hh⟩ | hh)
      · exact hh
      · exact absurd h (lessV_ne hh)
  · rw [if_neg h]
    constructor
    · intro hh; exact .inr hh
    · rintro (⟨hh, _⟩ | hh)
      · exact absurd hh h
      · exact hh
theorem lessL_trans : ∀ L M N : List V3, lessL L M = true → lessL M N = true → lessL L N = true
  | [], _, _, h, _ => by simp [lessL] at h
  | _ :: _, [], _, h, _ => by simp [lessL] at h
  | _ :: _, _ :: _, [], _, h => by simp [lessL] at h
  | v :: r, u :: s, t :: q, h1, h2 => by
    rw [lessL_cons] at h1 h2 ⊢
    rcases h1 with ⟨rfl, h1⟩ | h1
    · rcases h2 with ⟨rfl, h2⟩ | h2
      · exact .inl ⟨rfl, lessL_trans r s q h1 h2⟩
      · exact .inr h2
    · rcases h2 with ⟨rfl, h2⟩ | h2
      · exact .inr h1
      · exact .inr (lessV_trans h1 h2)
theorem lessL_tri : ∀ L M : List V3, L.length = M.length → (L = M ∧ lessL L M = false ∧ lessL M L = false) ∨ (L ≠ M ∧ ((lessL L M = true ∧ lessL M L = false) ∨ (lessL L M = false ∧ lessL M L = true)))
  | [], [], _ => .inl ⟨rfl, rfl, rfl⟩
  | [], _ :: _, h => by simp at h
  | _ :: _, [], h => by simp at h
  | v :: r, u :: s, h => by
    have ih := lessL_tri r s (by simpa using h)
    by_cases e : v = u
    · subst e
      have f : ∀ x y : List V3, lessL (v :: x) (v :: y) = lessL x y := fun x y => by show (if v = v then _ else _) = _; rw [if_pos rfl]
      rw [f, f]
      rcases ih with ⟨rfl, h1, h2⟩ | ⟨hne, h1⟩
      · exact .inl ⟨rfl, h1, h2⟩
      · exact .inr ⟨fun e => hne (by injection e), h1⟩
    · have f1 : lessL (v :: r) (u :: s) = v.less u := by show (if v = u then _ else _) = _; rw [if_neg e]
      have f2 : lessL (u :: s) (v :: r) = u.less v := by show (if u = v then _ else _) = _; rw [if_neg (fun h => e h.symm)]
      rw [f1, f2]
      rcases lessV_tri v u with ⟨h1, _⟩ | ⟨_, h1⟩
      · exact absurd h1 e
      · exact .inr ⟨fun e' => e (by injection e'), h1⟩

theorem lessF_iff (kd kd' : ByteArray) (L M : List V3) : lessF kd L kd' M = true ↔ Op.bytesLess kd.toList kd'.toList = true ∨ (kd.toList = kd'.toList ∧ (L.length < M.length ∨ (L.length = M.length ∧ lessL L M = true))) := by
  unfold lessF
  by_cases h1 : kd.toList = kd'.toList
  · have h0 : Op.bytesLess kd.toList kd'.toList = false := by
      rcases bl_tri kd.toList kd'.toList with ⟨_, h, _⟩ | ⟨h, _⟩
      · exact h
      · exact absurd h1 h
    by_cases h2 : L.length = M.length
    · simp [h1, h2]
      rw [← h1] at h0 ⊢
      simp [h0]
    · have : ((L.length : Int) != (M.length : Int)) = true := by simp; omega
      rw [h0, this]
      simp [h1, h2]
  · have : (kd.toList != kd'.toList) = true := by simpa using h1
    rw [this]
    simp [h1]
theorem lessF_trans {k1 k2 k3 : ByteArray} {L M N : List V3} (h1 : lessF k1 L k2 M = true) (h2 : lessF k2 M k3 N = true) : lessF k1 L k3 N = true := by
  rw [lessF_iff] at *
  rcases h1 with h1 | ⟨e1, h1⟩
  · rcases h2 with h2 | ⟨e2, _⟩
    · exact .inl (bl_trans _ _ _ h1 h2)
    · exact .inl (by rw [← e2]; exact h1)
  · rcases h2 with h2 | ⟨e2, h2⟩
    · exact .inl (by rw [e1]; exact h2)
    · refine .inr ⟨e1.trans e2, ?_⟩
      rcases h1 with h1 | ⟨f1, h1⟩
      · rcases h2 with h2 | ⟨f2, _⟩ <;> (left; omega)
      · rcases h2 with h2 | ⟨f2, h2⟩
        · left; omega
        · exact .inr ⟨f1.trans f2, lessL_trans _ _ _ h1 h2⟩
/-- two facts are the same and none is less; or they are not, and just one is -/
theorem lessF_tri (kd kd' : ByteArray) (L M : List V3) :
    (sameF kd L kd' M = true ∧ lessF kd L kd' M = false ∧ lessF kd' M kd L = false) ∨ (sameF kd L kd' M = false ∧ ((lessF kd L kd' M = true ∧ lessF kd' M kd L = false) ∨ (lessF kd L kd' M = false ∧ lessF kd' M kd L = true))) := by
  have i1 := lessF_iff kd kd' L M
  have i2 := lessF_iff kd' kd M L
  rcases bl_tri kd.toList kd'.toList with ⟨h1, h2, h3⟩ | ⟨h1, h2⟩
  · rw [h2] at i1
    rw [h3] at i2
    have hk : kd = kd' := toList_inj h1
    by_cases hl : L.length = M.length
    · have e1 : lessF kd L kd' M = lessL L M := by
        rw [Bool.eq_iff_iff, i1]; simp [h1, hl]
      have e2 : lessF kd' M kd L = lessL M L := by
        rw [Bool.eq_iff_iff, i2]; simp [h1, hl]
      rw [e1, e2]
      rcases lessL_tri L M hl with ⟨h4, h5, h6⟩ | ⟨h4, h5⟩
      · exact .inl ⟨by unfold sameF; simp [hk, h4], h5, h6⟩
      · exact .inr ⟨by unfold sameF; simp [h4], h5⟩
    · have hs : sameF kd L kd' M = false := by unfold sameF; simp; intro _ e; exact hl (by rw [e])
      refine .inr ⟨hs, ?_⟩
      by_cases hlt : L.length < M.length
      · left
        refine ⟨i1.2 (.inr ⟨h1, .inl hlt⟩), ?_⟩
        rw [Bool.eq_false_iff]; intro h
        rcases i2.1 h with h | ⟨_, h | ⟨h, _⟩⟩
        · cases h
        · omega
        · omega
      · right
        refine ⟨?_, i2.2 (.inr ⟨h1.symm, .inl (by omega)⟩)⟩
        rw [Bool.eq_false_iff]; intro h
        rcases i1.1 h with h | ⟨_, h | ⟨h, _⟩⟩
        · cases h
        · omega
        · omega
  · have hs : sameF kd L kd' M = false := by unfold sameF; simp; intro e; exact absurd (by rw [e]) h1
    refine .inr ⟨hs, ?_⟩
    have h1' : ¬ kd'.toList = kd.toList := fun e => h1 e.symm
    have e1 : lessF kd L kd' M = Op.bytesLess kd.toList kd'.toList := by rw [Bool.eq_iff_iff, i1]; simp [h1]
    have e2 : lessF kd' M kd L = Op.bytesLess kd'.toList kd.toList := by rw [Bool.eq_iff_iff, i2]; simp [h1']
    rw [e1, e2]; exact h2
end Go.Proofs.Ytddcmifebhdgfaa
