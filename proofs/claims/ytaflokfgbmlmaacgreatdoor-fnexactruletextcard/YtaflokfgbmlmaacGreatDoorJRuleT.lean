/-
  A rule's text, plainly: ruleT; how long it and its parts are.
-/
import Derived.Test.YtaflokfgbmlmaacGreatDoorJoined3
import Derived.Test.YtaflokfgbmlmaacGreatDoorJActT
namespace Go.Proofs.YtaflokfgbmlmaacGreatDoor
open Go.RowKit
set_option linter.unusedVariables false

/-- texts with a comma and a blank between -/
def joinT (ts : List ByteArray) : ByteArray := ⟨(Lib.join (ts.map (·.data.toList)) (ByteArray.mk #[44, 32]).data.toList).toArray⟩
theorem joinT_nil : joinT [] = ⟨#[]⟩ := rfl
theorem join_snocL (L : List (List UInt8)) (v : List UInt8) : Lib.join (L ++ [v]) [44, 32] = if L = [] then v else Lib.join L [44, 32] ++ (44 :: 32 :: v) := by
  unfold Lib.join
  induction L with
  | nil => simp [List.intercalate]
  | cons a r ih =>
    rw [if_neg (by simp)]
    cases r with
    | nil => simp [List.intercalate]
    | cons b s =>
      rw [if_neg (by simp)] at ih
      simp only [List.cons_append] at ih ⊢
      have e : ∀ (p q : List UInt8) (t : List (List UInt8)), List.intercalate [44, 32] (p :: q :: t) = p ++ (44 :: 32 :: List.intercalate [44, 32] (q :: t)) := fun p q t => by simp [List.intercalate, List.intersperse]
      rw [e, e, ih]
      simp
theorem joinT_snoc (ts : List ByteArray) (t : ByteArray) : joinT (ts ++ [t]) = if ts = [] then t else joinT ts ++ ⟨#[44, 32]⟩ ++ t := by
  unfold joinT
  rw [List.map_append, show ([t].map fun x : ByteArray => x.data.toList) = [t.data.toList] from rfl, show (ByteArray.mk #[44, 32]).data.toList = [44, 32] from rfl, join_snocL]
  by_cases e : ts = []
  · rw [if_pos e, if_pos (by rw [e]; rfl)]
  · rw [if_neg e, if_neg (by simpa using e)]
    apply ByteArray.ext
    rw [ByteArray.data_append, ByteArray.data_append]
    apply Array.toList_inj.1
    simp
theorem joinT_size {M : Nat} : ∀ (ts : List ByteArray), (∀ t ∈ ts, t.size ≤ M) → (joinT ts).size ≤ (M + 2) * ts.length := by
  have key : ∀ n (ts : List ByteArray), ts.length = n → (∀ t ∈ ts, t.size ≤ M) → (joinT ts).size ≤ (M + 2) * n := by
    intro n
    induction n with
    | zero => intro ts h _; rw [List.eq_nil_of_length_eq_zero h, joinT_nil]; exact Nat.zero_le _
    | succ n ih =>
      intro ts h hM
      rcases List.eq_nil_or_concat ts with rfl | ⟨r, x, hsx⟩
      · simp at h
      rw [List.concat_eq_append] at hsx
      subst hsx
      have h1 := ih r (by simpa using h) (fun t ht => hM t (by simp [ht]))
      have h2 := hM x (by simp)
      rw [joinT_snoc]
      have c : (ByteArray.mk #[44, 32]).size = 2 := rfl
      split
      · rw [Nat.mul_add]; omega
      · rw [ByteArray.size_append, ByteArray.size_append, c, Nat.mul_add]; omega
  exact fun ts h => key _ ts rfl h
def PE.txt (p : PE) : ByteArray := patT p.kd p.L p.nt
def C11.txt (c : C11) : ByteArray := condT c.Op c.L c.R
def QE.txt (a : QE) : ByteArray := actT a.K a.nm a.L a.N a.un
theorem patT_size (p : PE) : p.txt.size ≤ 400 := by
  unfold PE.txt
  cases h : patB p.kd p.L
  · rw [patT_no h]; exact Nat.zero_le _
  · rw [patT_yes h]
    obtain ⟨h1, h2, h3⟩ := patB_open h
    have a1 := nameP_size h1
    have a2 := joinA_le h3
    have a3 : (⟨(joinA p.L).toArray⟩ : ByteArray).size = (joinA p.L).length := by simp [ByteArray.size]
    have c40 : (ByteArray.mk #[40]).size = 1 := rfl
    have c41 : (ByteArray.mk #[41]).size = 1 := rfl
    have c33 : (ByteArray.mk #[33]).size = 1 := rfl
    unfold notT
    split <;> simp only [ByteArray.size_append, a3, c40, c41, c33] <;> omega
theorem condT_size (c : C11) : c.txt.size ≤ 400 := by
  unfold C11.txt
  cases h : condB c.Op c.L c.R
  · rw [condT_no h]; exact Nat.zero_le _
  · rw [condT_yes h]
    obtain ⟨-, h2, h3⟩ := condB_open h
    have a1 := txA_size h2
    have a2 := txA_size h3
    have a3 := signT_size c.Op
    have c32 : (ByteArray.mk #[32]).size = 1 := rfl
    simp only [ByteArray.size_append, c32]
    omega
theorem actT_size (a : QE) : a.txt.size ≤ 400 := by
  unfold QE.txt
  cases h : actB a.K a.nm a.L a.N a.un
  · rw [actT_no h]; exact Nat.zero_le _
  · rw [actT_yes h]
    obtain ⟨K, nm, aa, ac, L, N, un⟩ := a
    simp only at h ⊢
    rcases actB_kind h with rfl | rfl | rfl | rfl | rfl | rfl
    · obtain ⟨h1, -, -⟩ := act_open1 h
      have := namedT_size h1
      have e : actW 1 nm L N un = ⟨#[97, 115, 115, 101, 114, 116, 32]⟩ ++ namedT nm L := rfl
      have c : (ByteArray.mk #[97, 115, 115, 101, 114, 116, 32]).size = 7 := rfl
      rw [e, ByteArray.size_append, c]; omega
    · obtain ⟨h1, -⟩ := act_open2 h
      have := itoaB_size (n := N) (by omega)
      have e : actW 2 nm L N un = ⟨#[100, 114, 111, 112, 32]⟩ ++ itoaB N := rfl
      have c : (ByteArray.mk #[100, 114, 111, 112, 32]).size = 5 := rfl
      rw [e, ByteArray.size_append, c]; omega
    · obtain ⟨h1, h2⟩ := act_open3 h
      have := namedT_size h1
      have e : actW 3 nm L N un = if un.size = 0 then ⟨#[116, 97, 115, 107, 32]⟩ ++ namedT nm L else ⟨#[116, 97, 115, 107, 32]⟩ ++ namedT nm L ++ ⟨#[32, 117, 110, 100, 111, 32]⟩ ++ un := rfl
      have c : (ByteArray.mk #[116, 97, 115, 107, 32]).size = 5 := rfl
      have d : (ByteArray.mk #[32, 117, 110, 100, 111, 32]).size = 6 := rfl
      rw [e]
      split
      · rw [ByteArray.size_append, c]; omega
      · rename_i hne
        rcases h2 with h2 | h2
        · rw [h2] at hne; exact absurd rfl hne
        · simp only [ByteArray.size_append, c, d]; omega
    · obtain ⟨h1, h2, -⟩ := act_open4 h
      have := namedT_size h1
      have := itoaB_size (n := N) (by omega)
      have e : actW 4 nm L N un = ⟨#[116, 105, 109, 101, 114, 32]⟩ ++ itoaB N ++ ⟨#[32]⟩ ++ namedT nm L := rfl
      have c : (ByteArray.mk #[116, 105, 109, 101, 114, 32]).size = 6 := rfl
      have d : (ByteArray.mk #[32]).size = 1 := rfl
      rw [e]; simp only [ByteArray.size_append, c, d]; omega
    · have e : actW 5 nm L N un = ⟨#[100, 111, 110, 101]⟩ := rfl
      have c : (ByteArray.mk #[100, 111, 110, 101]).size = 4 := rfl
      rw [e, c]; omega
    · have e : actW 6 nm L N un = ⟨#[102, 97, 105, 108]⟩ := rfl
      have c : (ByteArray.mk #[102, 97, 105, 108]).size = 4 := rfl
      rw [e, c]; omega
/-- what stands ahead of a rule's patterns -/
def headT (nm : ByteArray) (sal : Int) : ByteArray := ⟨#[114, 117, 108, 101, 32]⟩ ++ nm ++ ⟨#[32]⟩ ++ itoaB sal ++ ⟨#[58, 32]⟩
def ruleW (x : RE) : ByteArray :=
  headT x.nm x.sal ++ joinT (x.P.map PE.txt) ++ (if x.C = [] then ⟨#[]⟩ else ⟨#[32, 43, 32]⟩ ++ joinT (x.C.map C11.txt)) ++ ⟨#[32, 45, 62, 32]⟩ ++ joinT (x.A.map QE.txt) ++ ⟨#[46, 10]⟩
def ruleT (x : RE) : ByteArray := if ruleB x = true then ruleW x else ⟨#[]⟩
theorem ruleT_no {x : RE} (h : ruleB x = false) : ruleT x = ⟨#[]⟩ := by unfold ruleT; rw [if_neg (by rw [h]; simp)]
theorem ruleT_yes {x : RE} (h : ruleB x = true) : ruleT x = ruleW x := by unfold ruleT; rw [if_pos h]
theorem ptxt_pl {K J : List PE} (h : K.map PE.pl = J.map PE.pl) : K.map PE.txt = J.map PE.txt := by
  have e : ∀ L : List PE, L.map PE.txt = (L.map PE.pl).map (fun p => patT p.kd p.L p.nt) := fun L => by rw [List.map_map]; rfl
  rw [e, e, h]
theorem atxt_pl {K J : List QE} (h : K.map QE.pl = J.map QE.pl) : K.map QE.txt = J.map QE.txt := by
  have e : ∀ L : List QE, L.map QE.txt = (L.map QE.pl).map (fun a => actT a.K a.nm a.L a.N a.un) := fun L => by rw [List.map_map]; rfl
  rw [e, e, h]
theorem ruleT_pl {x y : RE} (h : y.pl = x.pl) : ruleT y = ruleT x := by
  obtain ⟨e1, e2, e3, e4, e5⟩ := RE.pl_inj h
  unfold ruleT ruleW
  rw [ruleB_pl h, e1, e2, ptxt_pl e3, e4, atxt_pl e5]
/-- what a rule that is right has -/
theorem rule_open {x : RE} (h : ruleB x = true) : x.nm.size ≤ 12 ∧ (-100 ≤ x.sal ∧ x.sal ≤ 100) ∧ (1 ≤ x.P.length ∧ x.P.length ≤ 6) ∧ x.C.length ≤ 6 ∧ (1 ≤ x.A.length ∧ x.A.length ≤ 6) := by
  unfold ruleB patsB at h
  simp only [Bool.and_eq_true, decide_eq_true_eq, inB_iff] at h
  obtain ⟨⟨⟨⟨h1, h2⟩, h3⟩, h4⟩, h5⟩ := h
  exact ⟨nameP_size h1, h2, by omega, h4.2, by omega⟩
end Go.Proofs.YtaflokfgbmlmaacGreatDoor
