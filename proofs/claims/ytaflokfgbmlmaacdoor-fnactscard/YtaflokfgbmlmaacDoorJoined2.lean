/-
  Texts of this claim joined into one: Text, ValE, Val, VOk, DrawSo, ExprRow, Box11, LawExpr, DrawX, LawExprS, ActRow, Name, Tok, TokI, TokS, VEq, ArgOk, May.
-/
import Derived.Test.YtaflokfgbmlmaacDoorJoined1
import Derived.Deep.RegionWith
import Derived.Deep.QuietTactic
import Derived.BigQuiet
import Derived.Handy
import Derived.Laws.StructEq
import Derived.Deep.DeepCutAuto
import Derived.Deep.AppendLies
import Derived.Deep.RegionHeld3
import Derived.Lib.SmallJoins
import Derived.Laws.Strings
import Derived.ChangeKeysEq
/-
  What the functions on a value's text answer, the tested one and the model alike: textB of the text, in the world as it was.
-/
namespace Go.Proofs.YtaflokfgbmlmaacDoor
open Go.RowKit
set_option linter.unusedVariables false

/-- may a text be a value's? -/
def textB (s : ByteArray) : Bool := (List.range s.size).all (fun i => wordB (bat s i)) && decide (s.size ≤ 20)

theorem textB_no {s : ByteArray} {i : Nat} (h : i < s.size) (hb : wordB (bat s i) = false) : textB s = false := by
  unfold textB
  rw [Bool.and_eq_false_iff]
  left
  rw [← Bool.not_eq_true, List.all_eq_true]
  intro h2
  have := h2 i (by simpa using h)
  rw [hb] at this
  cases this
theorem textB_all {s : ByteArray} (h : ∀ i, i < s.size → wordB (bat s i) = true) : textB s = decide (s.size ≤ 20) := by
  unfold textB
  have : (List.range s.size).all (fun i => wordB (bat s i)) = true := by
    rw [List.all_eq_true]; intro i hi; exact h i (by simpa using hi)
  rw [this]; simp
theorem textB_size {s : ByteArray} (h : ¬ s.size ≤ 20) : textB s = false := by
  unfold textB
  rw [Bool.and_eq_false_iff]
  right
  simpa using h
theorem textB_le {s : ByteArray} (h : textB s = true) : s.size ≤ 20 := by
  by_cases h2 : s.size ≤ 20
  · exact h2
  · rw [textB_size h2] at h; cases h

set_option maxHeartbeats 800000 in
theorem l2Plain_any (s : ByteArray) (w : World) (hs : s.size ≤ maxLen) :
    Calls Tryd.prog 117 #[.string s] w fun e w' => e = .returned (.bool (textB s)) ∧ w' = w := by
  unfold maxLen at hs
  go_enter Tryd.func117, Tryd.ntmps117
  go_wp2
  go_loop [3] (fun i => ∃ k : Nat, k ≤ s.size ∧ i = .int .i64 k ∧ ∀ j, j < k → wordB (bat s j) = true) (fun i => s.size - (intOf i).toNat)
  case atStart => exact ⟨0, Nat.zero_le _, rfl, fun j hj => absurd hj (Nat.not_lt_zero _)⟩
  case round =>
    obtain ⟨k, hk, rfl, hall⟩ := hrel
    have HA := hide hall
    clear hall
    by_cases hlt : k < s.size
    · have hlb : 0 ≤ ((s[k]'hlt).toNat : Int) := by omega
      have hub : ((s[k]'hlt).toNat : Int) ≤ 255 := by have := (s[k]'hlt).toNat_lt; omega
      have HB := hide (bat_in hlt)
      cases hw : wordB ((s[k]'hlt).toNat : Int)
      · have HN := hide (textB_no hlt (by rw [HB.out, hw]))
        go_wp2_with (go_at_call 96; refine (l1Letter_any _ _ (by omega) (by omega)).mono ?_; rintro e w' ⟨rfl, rfl⟩)
        go_ret
        exact ⟨ret_bool HN.out.symm, rfl⟩
      · have HW := hide hw
        go_wp2_with (go_at_call 96; refine (l1Letter_any _ _ (by omega) (by omega)).mono ?_; rintro e w' ⟨rfl, rfl⟩)
        go_round
        case rel => exact ⟨k + 1, by omega, by go_num, fun j hj => by
          by_cases hjk : j = k
          · rw [hjk, HB.out, HW.out]
          · exact HA.out j (by omega)⟩
        case measure => simp [intOf]; omega
    · have HN := hide (textB_all fun i hi => HA.out i (by omega))
      go_wp2
      go_ret
      exact ⟨ret_bool (by rw [HN.out]; simp; omega), rfl⟩

theorem textB_tail {s : ByteArray} (h : s.size ≤ 20) : textB s = allB wordB s := by
  unfold textB allB
  rw [decide_eq_true h, Bool.and_true]

set_option maxHeartbeats 800000 in
theorem isTextOfVal_any (s : ByteArray) (w : World) (hs : s.size ≤ maxLen) :
    Calls Tryd.prog 131 #[.string s] w fun e w' => e = .returned (.bool (textB s)) ∧ w' = w := by
  have hs2 := hs
  unfold maxLen at hs2
  by_cases h2 : s.size ≤ 20
  · have HN := hide (textB_tail h2)
    go_enter Tryd.func131, Tryd.ntmps131
    go_wp2_with fail
    refine (allBytesWord_any _ _ hs).mono ?_
    rintro e w' ⟨rfl, rfl⟩
    generalize allB wordB s = r at HN ⊢
    go_wp2
    go_ret
    exact ⟨ret_bool HN.out.symm, rfl⟩
  · rw [textB_size h2]
    go_enter Tryd.func131, Tryd.ntmps131
    go_wp2
    go_ret
    exact ⟨rfl, rfl⟩
end Go.Proofs.YtaflokfgbmlmaacDoor
/-
  Small facts on empty texts and on boxes that a call has made.
-/
namespace Go.Proofs.YtaflokfgbmlmaacDoor
open Go.RowKit
set_option linter.unusedVariables false

theorem empty_of_size {S : ByteArray} (h : S.size = 0) : S = ⟨#[]⟩ := by
  cases S with
  | mk d =>
    have : d.size = 0 := h
    rw [Array.size_eq_zero_iff] at this
    rw [this]
theorem bcell {W w1 : World} (hb : Below W.heap.size W w1) : (∀ b o, b < W.heap.size → w1.cell? ⟨b, o, none⟩ = W.cell? ⟨b, o, none⟩) ∧ (∀ b o, b < W.heap.size → w1.frozen? ⟨b, o, none⟩ = W.frozen? ⟨b, o, none⟩) :=
  ⟨fun b o h => hb.cell (p := ⟨b, o, none⟩) h, fun b o h => hb.frozen (p := ⟨b, o, none⟩) h⟩
theorem below_box {w w' : World} {o : Obj} (hb : Below (w.alloc o).drew.heap.size (w.alloc o).drew w') : Below w.heap.size w w' :=
  (((Below.refl w.heap.size w).alloc (Nat.le_refl _) o).drew).trans (hb.mono (by simp))
theorem below_boxN (w : World) (o : Obj) (n : Nat) : Below w.heap.size w ((w.alloc o).drewN n) :=
  ((Below.refl w.heap.size w).alloc (Nat.le_refl _) o).trans ⟨rfl, rfl, rfl, Nat.le_refl _, fun _ _ => rfl⟩
theorem isEmpty_false {S : ByteArray} (h : S.size ≠ 0) : S.toList.isEmpty = false := by
  rw [ByteArray.toList_eq]
  cases hd : S.data.toList with
  | nil =>
    exfalso; apply h
    have e : S.data.toList.length = S.size := by rw [Array.length_toList]; rfl
    rw [hd] at e; simpa using e.symm
  | cons a r => rfl
end Go.Proofs.YtaflokfgbmlmaacDoor
/-
  What the functions on values answer: valB of the value, the tested ones and the model alike; nothing that was there has turned.
-/
namespace Go.Proofs.YtaflokfgbmlmaacDoor
open Go.RowKit
set_option linter.unusedVariables false

/-- is a value right? -/
def valB (K N : Int) (S : ByteArray) : Bool := (K == 1 && inB N (-1000000000) 1000000000 && decide (S.size = 0)) || (K == 2 && textB S && N == 0)
theorem valB_num {N : Int} (S : ByteArray) (h : -1000000000 ≤ N ∧ N ≤ 1000000000) : valB 1 N S = decide (S.size = 0) := by
  simp [valB, inB_t h]
theorem valB_out {N : Int} (S : ByteArray) (h : ¬ (-1000000000 ≤ N ∧ N ≤ 1000000000)) : valB 1 N S = false := by
  simp [valB, inB_f h]
theorem valB_text (N : Int) (S : ByteArray) : valB 2 N S = (textB S && N == 0) := by
  simp [valB]
theorem valB_none {K : Int} (N : Int) (S : ByteArray) (h1 : K ≠ 1) (h2 : K ≠ 2) : valB K N S = false := by
  simp [valB, h1, h2]

set_option maxHeartbeats 400000 in
theorem asValNum_any (n : Int) (w : World) :
    Calls Tryd.prog 168 #[.int .i64 n] w fun e w' => e = .returned (.agg #[.int .i64 1, .int .i64 n, .string ⟨#[]⟩]) ∧ Below w.heap.size w w' := by
  go_enter Tryd.func168, Tryd.ntmps168
  go_wp2
  go_returns
  exact ⟨rfl, by go_grown⟩

set_option maxHeartbeats 400000 in
theorem asValText_any (s : ByteArray) (w : World) :
    Calls Tryd.prog 169 #[.string s] w fun e w' => e = .returned (.agg #[.int .i64 2, .int .i64 0, .string s]) ∧ Below w.heap.size w w' := by
  go_enter Tryd.func169, Tryd.ntmps169
  go_wp2
  go_returns
  exact ⟨rfl, by go_grown⟩

/-- what spokenOf answers -/
def spokV (K N : Int) (S : ByteArray) : Value :=
  if valB K N S then (if K = 1 then .iface 153 (.int .i64 N) else .iface 154 (.string S)) else .nilIface
theorem spokV_one {N : Int} {S : ByteArray} (h : valB 1 N S = true) : spokV 1 N S = .iface 153 (.int .i64 N) := by simp [spokV, h]
theorem spokV_two {N : Int} {S : ByteArray} (h : valB 2 N S = true) : spokV 2 N S = .iface 154 (.string S) := by simp [spokV, h]
theorem spokV_no {K N : Int} {S : ByteArray} (h : valB K N S = false) : spokV K N S = .nilIface := by simp [spokV, h]

set_option maxHeartbeats 1600000 in
theorem spokenOf_any (K N : Int) (S : ByteArray) (w : World) (hs : S.size ≤ maxLen) :
    Calls Tryd.prog 115 #[.agg #[.int .i64 K, .int .i64 N, .string S]] w fun e w' =>
      e = .returned (spokV K N S) ∧ Below w.heap.size w w' := by
  by_cases hK : K = 1
  · subst hK
    by_cases h1 : -1000000000 ≤ N
    · by_cases h2 : N ≤ 1000000000
      · by_cases hS : S.size = 0
        · rw [spokV_one (by rw [valB_num S ⟨h1, h2⟩]; simpa using hS)]
          obtain rfl := empty_of_size hS
          clear hS
          go_enter Tryd.func115, Tryd.ntmps115
          go_wp2
          go_region_with (go_at_call 168; refine (asValNum_any _ _).mono ?_; rintro e w' ⟨rfl, hb⟩; obtain ⟨hc, hf⟩ := bcell hb)
          all_goals go_wp2
          all_goals go_ret
          all_goals exact ⟨rfl, below_box hb⟩
        · rw [spokV_no (by rw [valB_num S ⟨h1, h2⟩]; simpa using hS)]
          have hE := isEmpty_false hS
          clear hS
          go_enter Tryd.func115, Tryd.ntmps115
          go_wp2
          go_region_with (go_at_call 168; refine (asValNum_any _ _).mono ?_; rintro e w' ⟨rfl, hb⟩; obtain ⟨hc, hf⟩ := bcell hb)
          all_goals go_wp2
          all_goals go_ret
          all_goals exact ⟨rfl, below_box hb⟩
      · rw [spokV_no (valB_out S (by omega))]
        go_enter Tryd.func115, Tryd.ntmps115
        go_wp2
        go_quiet (fail)
        go_wp2
        go_ret
        exact ⟨rfl, below_boxN _ _ _⟩
    · rw [spokV_no (valB_out S (by omega))]
      go_enter Tryd.func115, Tryd.ntmps115
      go_wp2
      go_quiet (fail)
      go_wp2
      go_ret
      exact ⟨rfl, below_boxN _ _ _⟩
  · have hk1 : (K == 1) = false := by simpa using hK
    by_cases hK2 : K = 2
    · subst hK2
      clear hk1 hK
      cases ht : textB S
      · rw [spokV_no (by rw [valB_text, ht]; rfl)]
        go_enter Tryd.func115, Tryd.ntmps115
        go_wp2_with (go_at_call 131; refine (isTextOfVal_any _ _ hs).mono ?_; rintro e w' ⟨rfl, rfl⟩)
        go_quiet (fail)
        go_wp2
        go_ret
        exact ⟨rfl, below_boxN _ _ _⟩
      · by_cases hN : N = 0
        · rw [spokV_two (by rw [valB_text, ht, hN]; rfl)]
          subst hN
          go_enter Tryd.func115, Tryd.ntmps115
          go_wp2_with (go_at_call 131; refine (isTextOfVal_any _ _ hs).mono ?_; rintro e w' ⟨rfl, rfl⟩)
          go_region_with (go_at_call 169; refine (asValText_any _ _).mono ?_; rintro e w' ⟨rfl, hb⟩; obtain ⟨hc, hf⟩ := bcell hb)
          all_goals go_wp2
          all_goals go_ret
          all_goals exact ⟨rfl, below_box hb⟩
        · rw [spokV_no (by rw [valB_text, ht]; simpa using hN)]
          have hn0 : ((0 : Int) == N) = false := by simp; omega
          clear hN
          go_enter Tryd.func115, Tryd.ntmps115
          go_wp2_with (go_at_call 131; refine (isTextOfVal_any _ _ hs).mono ?_; rintro e w' ⟨rfl, rfl⟩)
          go_region_with (go_at_call 169; refine (asValText_any _ _).mono ?_; rintro e w' ⟨rfl, hb⟩; obtain ⟨hc, hf⟩ := bcell hb)
          all_goals go_wp2
          all_goals go_ret
          all_goals exact ⟨rfl, below_box hb⟩
    · rw [spokV_no (valB_none N S hK hK2)]
      have hk2 : (K == 2) = false := by simpa using hK2
      clear hK hK2
      go_enter Tryd.func115, Tryd.ntmps115
      go_wp2
      go_quiet (fail)
      go_wp2
      go_ret
      exact ⟨rfl, below_boxN _ _ _⟩

theorem spokV_nil (K N : Int) (S : ByteArray) : (valB K N S = true ∧ ∃ t v, spokV K N S = .iface t v) ∨ (valB K N S = false ∧ spokV K N S = .nilIface) := by
  cases h : valB K N S
  · exact .inr ⟨rfl, spokV_no h⟩
  · left
    refine ⟨rfl, ?_⟩
    unfold spokV
    rw [h]
    by_cases hk : K = 1
    · exact ⟨_, _, by rw [if_pos rfl, if_pos hk]⟩
    · exact ⟨_, _, by rw [if_pos rfl, if_neg hk]⟩

set_option maxHeartbeats 1600000 in
theorem implValOk_any (K N : Int) (S : ByteArray) (w : World) (hs : S.size ≤ maxLen) :
    Calls Tryd.prog 72 #[.agg #[.int .i64 K, .int .i64 N, .string S]] w fun e w' =>
      e = .returned (.bool (valB K N S)) ∧ Below w.heap.size w w' := by
  go_enter Tryd.func72, Tryd.ntmps72
  go_wp2_with fail
  refine (spokenOf_any K N S _ hs).mono ?_
  rintro e w1 ⟨rfl, hb⟩
  have hb1 : Below w.heap.size w w1 := ((Below.refl w.heap.size w).alloc (Nat.le_refl _) _).trans (hb.mono (by simp))
  clear hb
  rcases spokV_nil K N S with ⟨h1, t, v, h2⟩ | ⟨h1, h2⟩
  · rw [h2]
    have H1 := hide h1
    clear h1 h2
    go_wp2
    go_ret
    exact ⟨ret_bool H1.out.symm, hb1⟩
  · rw [h2]
    have H1 := hide h1
    clear h1 h2
    go_wp2
    go_ret
    exact ⟨ret_bool H1.out.symm, hb1⟩

set_option maxHeartbeats 1600000 in
theorem specValOk_any (K N : Int) (S : ByteArray) (w : World) (hs : S.size ≤ maxLen) :
    Calls Tryd.prog 74 #[.agg #[.int .i64 K, .int .i64 N, .string S]] w fun e w' =>
      e = .returned (.bool (valB K N S)) ∧ w.grownBy w' none := by
  by_cases hK : K = 1
  · subst hK
    cases hi : inB N (-1000000000) 1000000000
    · have HV : Hid (valB 1 N S = false) := by unfold Hid valB; rw [hi]; simp
      go_enter Tryd.func74, Tryd.ntmps74
      go_wp2_with (go_at_call 54; refine (l1In_any _ _ _ _).mono ?_; rintro e w' ⟨rfl, rfl⟩)
      go_ret
      exact ⟨ret_bool HV.out.symm, World.grownBy_alloc _ _ _⟩
    · by_cases hS : S.size = 0
      · obtain rfl := empty_of_size hS
        have HV : Hid (valB 1 N ⟨#[]⟩ = true) := by unfold Hid valB; rw [hi]; rfl
        clear hS
        go_enter Tryd.func74, Tryd.ntmps74
        go_wp2_with (go_at_call 54; refine (l1In_any _ _ _ _).mono ?_; rintro e w' ⟨rfl, rfl⟩)
        go_ret
        exact ⟨ret_bool HV.out.symm, World.grownBy_alloc _ _ _⟩
      · have HV : Hid (valB 1 N S = false) := by unfold Hid valB; rw [hi]; simpa using hS
        have hE := isEmpty_false hS
        clear hS
        go_enter Tryd.func74, Tryd.ntmps74
        go_wp2_with (go_at_call 54; refine (l1In_any _ _ _ _).mono ?_; rintro e w' ⟨rfl, rfl⟩)
        go_ret
        exact ⟨ret_bool HV.out.symm, World.grownBy_alloc _ _ _⟩
  · have hk1 : (K == 1) = false := by simpa using hK
    by_cases hK2 : K = 2
    · subst hK2
      clear hk1 hK
      have HV := hide (valB_text N S)
      cases ht : textB S
      · rw [ht] at HV
        go_enter Tryd.func74, Tryd.ntmps74
        go_wp2_with (go_at_call 117; refine (l2Plain_any _ _ hs).mono ?_; rintro e w' ⟨rfl, rfl⟩)
        go_ret
        exact ⟨ret_bool HV.out.symm, World.grownBy_alloc _ _ _⟩
      · rw [ht] at HV
        go_enter Tryd.func74, Tryd.ntmps74
        go_wp2_with (go_at_call 117; refine (l2Plain_any _ _ hs).mono ?_; rintro e w' ⟨rfl, rfl⟩)
        go_ret
        exact ⟨ret_bool HV.out.symm, World.grownBy_alloc _ _ _⟩
    · have HV := hide (valB_none N S hK hK2)
      have hk2 : (K == 2) = false := by simpa using hK2
      clear hK hK2
      go_enter Tryd.func74, Tryd.ntmps74
      go_wp2
      go_ret
      exact ⟨ret_bool HV.out.symm, World.grownBy_alloc _ _ _⟩
end Go.Proofs.YtaflokfgbmlmaacDoor
/-
  When a value is right, of its three parts at once.
-/
namespace Go.Proofs.YtaflokfgbmlmaacDoor

def V3.ok (v : V3) : Bool := valB v.K v.N v.S
end Go.Proofs.YtaflokfgbmlmaacDoor
/-
  Small values, arguments of terms and binds that are drawn: what is drawn is right.
-/
namespace Go.Proofs.YtaflokfgbmlmaacDoor
open Go.RowKit
set_option linter.unusedVariables false

theorem ok_a : valB 2 0 ⟨#[97]⟩ = true := by decide +kernel
theorem ok_b : valB 2 0 ⟨#[98]⟩ = true := by decide +kernel
theorem ok_n {n : Int} (h : -1000000000 ≤ n ∧ n ≤ 1000000000) : valB 1 n ⟨#[]⟩ = true := by
  have : (ByteArray.mk #[]).size = 0 := rfl
  simp [valB, this]
  unfold inB
  simp [h.1, h.2]

set_option maxRecDepth 100000 in
set_option maxHeartbeats 1600000 in
theorem l3Small_ok (B q : Nat) (w : World) (hc : Cur B w q) :
    Calls Tryd.prog 108 #[.pointer (some ⟨q, 0, none⟩)] w fun e w' => ∃ (v : V3), e = .returned (.agg #[.int .i64 v.K, .int .i64 v.N, .string v.S]) ∧ v.S.size ≤ 21 ∧ v.ok = true ∧ Cur B w' q ∧ w.grownBy w' (some q) := by
  have hq := hc.lt
  have hB := hc.1
  go_enter Tryd.func108, Tryd.ntmps108
  go_wp2_with fail
  refine (l1Once_any B q 2 _ (hc.keep (World.grownBy_alloc w _ none) (by simp) (by simp)) (by omega) (by omega)).mono ?_
  rintro e w1 ⟨b, rfl, c1, g1⟩
  have HR := hide (box_grown (box_new w (.int .i64 0) (.int .i64 0) (.string ⟨#[]⟩) 37) g1 (by omega))
  have G1 : w.grownBy w1 (some q) := grown_trans (grown_alloc w _ q) g1
  have z1 := G1.size
  have l1 := (Array.getElem?_eq_some_iff.1 HR.out).1
  clear g1
  cases b
  · go_wp2_with fail
    refine (l1Str_any B q w1.heap.size [⟨#[97]⟩, ⟨#[98]⟩] 2 _ (c1.keep (World.grownBy_alloc w1 _ none) (by simp) (by simp)) (by decide) (by decide) (by omega) (cells_strs w1 9 _)).mono ?_
    rintro e w2 ⟨s, rfl, hx, c2, g2⟩
    have HS : Hid (s.size ≤ 21) := by
      unfold Hid
      simp only [List.mem_cons, List.not_mem_nil, or_false] at hx
      rcases hx with rfl | rfl <;> decide
    have HV : Hid (valB 2 0 s = true) := by
      unfold Hid
      simp only [List.mem_cons, List.not_mem_nil, or_false] at hx
      rcases hx with rfl | rfl
      · exact ok_a
      · exact ok_b
    have HR2 := hide (box_grown (box_alloc HR.out _) g2 (by omega))
    have G2 : w.grownBy w2 (some q) := grown_trans (grown_trans G1 (grown_alloc w1 _ q)) g2
    obtain ⟨a0, a1, a2, f0, f1, f2⟩ := box_cell HR2.out
    clear hx g2 HR c1
    go_wp2
    refine box_post HR2.out (fun w3 h3 gr => ?_)
    clear a0 a1 a2 f0 f1 f2
    obtain ⟨a0, a1, a2, -, -, -⟩ := box_cell h3
    refine bodyPost_ret (v := .agg #[.int .i64 2, .int .i64 0, .string s]) (by simp [results, Tryd.results108, go_sem, a0, a1, a2]) rfl ⟨⟨2, 0, s⟩, rfl, HS.out, HV.out, c2.keep gr (by simp; omega) (by intro k hk; cases hk; omega), grown_more G2 gr (by intro k hk; cases hk; omega)⟩
  · go_wp2_with fail
    refine (l1Below_any B q 3 _ c1 (by omega) (by omega)).mono ?_
    rintro e w2 ⟨x, rfl, x0, x1, c2, g2⟩
    have HR2 := hide (box_grown HR.out g2 (by omega))
    have G2 : w.grownBy w2 (some q) := grown_trans G1 g2
    obtain ⟨a0, a1, a2, f0, f1, f2⟩ := box_cell HR2.out
    clear g2 HR c1
    go_wp2
    refine box_post HR2.out (fun w3 h3 gr => ?_)
    clear a0 a1 a2 f0 f1 f2
    obtain ⟨a0, a1, a2, -, -, -⟩ := box_cell h3
    refine bodyPost_ret (v := .agg #[.int .i64 1, .int .i64 (1 + x), .string ⟨#[]⟩]) (by simp [results, Tryd.results108, go_sem, a0, a1, a2]) rfl ⟨⟨1, 1 + x, ⟨#[]⟩⟩, rfl, (show (⟨#[]⟩ : ByteArray).size ≤ 21 by decide), (ok_n (show -1000000000 ≤ 1 + x ∧ 1 + x ≤ 1000000000 by omega)), c2.keep gr (by simp; omega) (by intro k hk; cases hk; omega), grown_more G2 gr (by intro k hk; cases hk; omega)⟩

/-- an argument that has a value, and if it is one, a right one -/
def DrawnAo (w : World) (B q : Nat) (e : Ending) (w' : World) : Prop := ∃ x : A5, e = .returned (.agg #[.int .i64 x.K, .string x.S, .int .i64 x.V.K, .int .i64 x.V.N, .string x.V.S]) ∧ x.small ∧ (x.K = 2 → x.V.ok = true) ∧ Cur B w' q ∧ w.grownBy w' (some q)

set_option maxRecDepth 100000 in
set_option maxHeartbeats 1600000 in
theorem l7Arg_ok (B q : Nat) (w : World) (hc : Cur B w q) :
    Calls Tryd.prog 127 #[.pointer (some ⟨q, 0, none⟩)] w (DrawnAo w B q) := by
  have hq := hc.lt
  have hB := hc.1
  go_enter Tryd.func127, Tryd.ntmps127
  go_wp2_with fail
  have c0 : Cur B (w.alloc (.cells #[.int .i64 0, .string ⟨#[]⟩, .int .i64 0, .int .i64 0, .string ⟨#[]⟩] 39)) q := hc.keep (World.grownBy_alloc w _ none) (by simp) (by simp)
  have hR := boxk_new w #[.int .i64 0, .string ⟨#[]⟩, .int .i64 0, .int .i64 0, .string ⟨#[]⟩] 39
  have G0 := grown_alloc w (.cells #[.int .i64 0, .string ⟨#[]⟩, .int .i64 0, .int .i64 0, .string ⟨#[]⟩] 39) q
  refine (l1Once_any B q 3 _ c0 (by omega) (by omega)).mono ?_
  rintro e w1 ⟨bb, rfl, c1, g1⟩
  have HR := hide (box_grown hR g1 (by omega))
  have G1 : w.grownBy w1 (some q) := grown_trans G0 g1
  have z1 := G1.size
  have l1 := (Array.getElem?_eq_some_iff.1 HR.out).1
  clear g1 hR G0 c0
  cases bb
  · go_wp2_with fail
    refine (l1Str_any B q w1.heap.size [⟨#[88]⟩, ⟨#[89]⟩] 2 _ (c1.keep (World.grownBy_alloc w1 _ none) (by simp) (by simp)) (by decide) (by decide) (by omega) (cells_strs w1 9 _)).mono ?_
    rintro e w2 ⟨s, rfl, hx, c2, g2⟩
    have HS : Hid (s.size ≤ 1048576) := by
      unfold Hid
      simp only [List.mem_cons, List.not_mem_nil, or_false] at hx
      rcases hx with rfl | rfl <;> decide
    have HR2 := hide (box_grown (box_alloc HR.out _) g2 (by omega))
    have G2 : w.grownBy w2 (some q) := grown_trans (grown_trans G1 (grown_alloc w1 _ q)) g2
    clear hx g2 HR c1 G1
    go_wp2_with fail
    refine (l6Var_any s _).mono ?_
    rintro e w3 ⟨rfl, hb3⟩
    have HR3 := hide (box_step HR2.out hb3)
    have G3 : w.grownBy w3 (some q) := grown_trans G2 (below_grown hb3)
    have c3 : Cur B w3 q := c2.keep (⟨hb3.os, hb3.tape, hb3.output, hb3.size, fun i hi _ => hb3.block i hi⟩ : w2.grownBy w3 none) (by simp) (by simp)
    clear hb3 HR2 c2 G2
    have r0 := boxk_cell HR3.out 0 _ rfl
    have f0 := boxk_frozen HR3.out 0
    have r1 := boxk_cell HR3.out 1 _ rfl
    have f1 := boxk_frozen HR3.out 1
    have r2 := boxk_cell HR3.out 2 _ rfl
    have f2 := boxk_frozen HR3.out 2
    have r3 := boxk_cell HR3.out 3 _ rfl
    have f3 := boxk_frozen HR3.out 3
    have r4 := boxk_cell HR3.out 4 _ rfl
    have f4 := boxk_frozen HR3.out 4
    go_wp2
    refine box5_post HR3.out (fun w4 h4 gr => ?_)
    clear r0 f0 r1 f1 r2 f2 r3 f3 r4 f4
    have a0 := boxk_cell h4 0 _ rfl
    have a1 := boxk_cell h4 1 _ rfl
    have a2 := boxk_cell h4 2 _ rfl
    have a3 := boxk_cell h4 3 _ rfl
    have a4 := boxk_cell h4 4 _ rfl
    refine bodyPost_ret (v := .agg #[.int .i64 1, .string s, .int .i64 0, .int .i64 0, .string ⟨#[]⟩]) (by simp [results, Tryd.results127, go_sem, a0, a1, a2, a3, a4]) rfl ⟨⟨1, s, ⟨0, 0, ⟨#[]⟩⟩⟩, rfl, ⟨HS.out, emp_small⟩, (fun h => absurd h (by show ¬ ((1 : Int) = 2); decide)), c3.keep gr (by simp; omega) (by intro k hk; cases hk; omega), grown_more G3 gr (by intro k hk; cases hk; omega)⟩
  · go_wp2_with fail
    refine (l3Small_ok B q _ c1).mono ?_
    rintro e w2 ⟨v, rfl, hv, hvo, c2, g2⟩
    have HVo := hide hvo
    clear hvo
    have HR2 := hide (box_grown HR.out g2 (by omega))
    have G2 : w.grownBy w2 (some q) := grown_trans G1 g2
    clear g2 HR c1 G1
    go_wp2_with fail
    refine (l6Val_any v _).mono ?_
    rintro e w3 ⟨rfl, hb3⟩
    have HR3 := hide (box_step HR2.out hb3)
    have G3 : w.grownBy w3 (some q) := grown_trans G2 (below_grown hb3)
    have c3 : Cur B w3 q := c2.keep (⟨hb3.os, hb3.tape, hb3.output, hb3.size, fun i hi _ => hb3.block i hi⟩ : w2.grownBy w3 none) (by simp) (by simp)
    clear hb3 HR2 c2 G2
    have r0 := boxk_cell HR3.out 0 _ rfl
    have f0 := boxk_frozen HR3.out 0
    have r1 := boxk_cell HR3.out 1 _ rfl
    have f1 := boxk_frozen HR3.out 1
    have r2 := boxk_cell HR3.out 2 _ rfl
    have f2 := boxk_frozen HR3.out 2
    have r3 := boxk_cell HR3.out 3 _ rfl
    have f3 := boxk_frozen HR3.out 3
    have r4 := boxk_cell HR3.out 4 _ rfl
    have f4 := boxk_frozen HR3.out 4
    go_wp2
    refine box5_post HR3.out (fun w4 h4 gr => ?_)
    clear r0 f0 r1 f1 r2 f2 r3 f3 r4 f4
    have a0 := boxk_cell h4 0 _ rfl
    have a1 := boxk_cell h4 1 _ rfl
    have a2 := boxk_cell h4 2 _ rfl
    have a3 := boxk_cell h4 3 _ rfl
    have a4 := boxk_cell h4 4 _ rfl
    refine bodyPost_ret (v := .agg #[.int .i64 2, .string ⟨#[]⟩, .int .i64 v.K, .int .i64 v.N, .string v.S]) (by simp [results, Tryd.results127, go_sem, a0, a1, a2, a3, a4]) rfl ⟨⟨2, ⟨#[]⟩, v⟩, rfl, ⟨emp_small, by show v.S.size ≤ 1048576; omega⟩, (fun _ => HVo.out), c3.keep gr (by simp; omega) (by intro k hk; cases hk; omega), grown_more G3 gr (by intro k hk; cases hk; omega)⟩


end Go.Proofs.YtaflokfgbmlmaacDoor
/-
  Rows of Exprs: what a slice of them reads as, what came in.
-/
namespace Go.Proofs.YtaflokfgbmlmaacDoor
open Go.ChangeShapes Go.WideShapes Go.ChangeAt Go.RowKit Go.Joins Go.Deep
set_option linter.unusedVariables false
set_option maxRecDepth 100000

structure X11 where
  Op : ByteArray
  L : A5
  R : A5
instance : Inhabited X11 := ⟨⟨⟨#[]⟩, default, default⟩⟩
def X11.cs (x : X11) : List Value := [.string x.Op, .int .i64 x.L.K, .string x.L.S, .int .i64 x.L.V.K, .int .i64 x.L.V.N, .string x.L.V.S, .int .i64 x.R.K, .string x.R.S, .int .i64 x.R.V.K, .int .i64 x.R.V.N, .string x.R.V.S]
theorem X11.len (x : X11) : x.cs.length = 11 := rfl
def X11.fits (x : X11) : Prop := x.Op.size ≤ maxLen ∧ x.L.fits ∧ x.R.fits
def X11.small (x : X11) : Prop := x.Op.size ≤ 1048576 ∧ x.L.small ∧ x.R.small
def X11.zero : X11 := ⟨⟨#[]⟩, A5.zero, A5.zero⟩
abbrev RdExpr (w : World) (a : Option Addr) (L : List X11) : Prop := RdK X11.cs 11 w a L
theorem RdExpr.cells {w : World} {a : Option Addr} {L : List X11} (h : RdExpr w a L) (hp : 0 < L.length) :
    ∃ b off, a = some ⟨b, off, none⟩ ∧ b < w.heap.size ∧ ∀ i, i < L.length → w.cell? ⟨b, off + i * 11, none⟩ = some (.string (eAt L i).Op) ∧ w.cell? ⟨b, off + i * 11 + 1, none⟩ = some (.int .i64 (eAt L i).L.K) ∧ w.cell? ⟨b, off + i * 11 + 2, none⟩ = some (.string (eAt L i).L.S) ∧ w.cell? ⟨b, off + i * 11 + 3, none⟩ = some (.int .i64 (eAt L i).L.V.K) ∧ w.cell? ⟨b, off + i * 11 + 4, none⟩ = some (.int .i64 (eAt L i).L.V.N) ∧ w.cell? ⟨b, off + i * 11 + 5, none⟩ = some (.string (eAt L i).L.V.S) ∧ w.cell? ⟨b, off + i * 11 + 6, none⟩ = some (.int .i64 (eAt L i).R.K) ∧ w.cell? ⟨b, off + i * 11 + 7, none⟩ = some (.string (eAt L i).R.S) ∧ w.cell? ⟨b, off + i * 11 + 8, none⟩ = some (.int .i64 (eAt L i).R.V.K) ∧ w.cell? ⟨b, off + i * 11 + 9, none⟩ = some (.int .i64 (eAt L i).R.V.N) ∧ w.cell? ⟨b, off + i * 11 + 10, none⟩ = some (.string (eAt L i).R.V.S) := by
  obtain ⟨b, off, e, hb, hc⟩ := RdK.open X11.len (by decide) h hp
  refine ⟨b, off, e, hb, fun i hi => ?_⟩
  have hc := hc i hi
  exact ⟨hc 0 _ rfl, hc 1 _ rfl, hc 2 _ rfl, hc 3 _ rfl, hc 4 _ rfl, hc 5 _ rfl, hc 6 _ rfl, hc 7 _ rfl, hc 8 _ rfl, hc 9 _ rfl, hc 10 _ rfl⟩
def IsExprs (w : World) (a : Option Addr) (len cap : Nat) (L : List X11) : Prop := L.length = len ∧ len ≤ maxLen ∧ RdExpr w a L ∧ ∀ x ∈ L, x.fits

theorem expr_cells {H : Type} {enc : TypeId × Value → H} {w : World} {base : Nat} {spare : Nat → Bool} {held : Bool} {n : Nat} {cs : List Value} {x : DataW H × List MemPlace}
    (h : DataW.trod enc Tryd.prog w base spare held n 114 cs = some x) : ∃ y : X11, cs = y.cs ∧ y.fits := by
  obtain ⟨y0, y1, y2, m, -, hl, h0, h1, h2⟩ := trod_struct3 Tryd.underlying114 h
  have hc : Tryd.prog.cellsOf 114 = 11 := by kernel_rfl
  have hi : Tryd.prog.cellsOf 9 = 1 := by kernel_rfl
  have ha : Tryd.prog.cellsOf 112 = 5 := by kernel_rfl
  rw [hc] at hl
  match cs, hl with
  | [c0, c1, c2, c3, c4, c5, c6, c7, c8, c9, c10], _ =>
    simp only [hi, ha, List.drop_zero, List.drop_succ_cons, List.take_succ_cons, List.take_zero] at h0 h1 h2
    obtain ⟨O, eO, _, wO⟩ := DataW.trod_string Tryd.underlying9 h0
    obtain ⟨l, el, fl⟩ := arg_cells h1
    obtain ⟨r, er, fr⟩ := arg_cells h2
    simp only [A5.cs, List.cons.injEq, and_true] at eO el er
    obtain ⟨e1, e2, e3, e4, e5⟩ := el
    obtain ⟨e6, e7, e8, e9, e10⟩ := er
    exact ⟨⟨O, l, r⟩, by rw [eO, e1, e2, e3, e4, e5, e6, e7, e8, e9, e10]; rfl, wO, fl, fr⟩

theorem expr_in {H : Type} {enc : TypeId × Value → H} {w : World} {base b0 : Nat} {spare : Nat → Bool} {held : Bool} {r : Reach} {v : Value} {d : DataW H} {p : List MemPlace}
    (hv : Value.okWide Tryd.prog w r b0 114 v) (h : DataW.Trod enc Tryd.prog w base spare held 114 v d p) : ∃ x : X11, v = .agg #[.string x.Op, .int .i64 x.L.K, .string x.L.S, .int .i64 x.L.V.K, .int .i64 x.L.V.N, .string x.L.V.S, .int .i64 x.R.K, .string x.R.S, .int .i64 x.R.V.K, .int .i64 x.R.V.N, .string x.R.V.S] ∧ x.fits := by
  obtain ⟨cs, rfl, hsz⟩ := okWide_struct Tryd.underlying114 hv
  obtain ⟨fuel, hf⟩ := h
  obtain ⟨y, e, hy⟩ := expr_cells hf
  refine ⟨y, ?_, hy⟩
  have e2 : cs.toList = y.cs := e
  rw [← Array.toArray_toList (xs := cs), e2]
  rfl
theorem exprs_in {H : Type} {enc : TypeId × Value → H} {w : World} {spare : Nat → Bool} {held : Bool} {n : Nat} {v : Value} {x : DataW H × List MemPlace}
    (h : DataW.trod enc Tryd.prog w 0 spare held n 22 [v] = some x) : ∃ a len cap L, v = .slice a len cap ∧ IsExprs w a len cap L := by
  have hc : Tryd.prog.cellsOf 114 = 11 := by kernel_rfl
  rcases open_slice Tryd.underlying22 h with ⟨h0, _⟩ | ⟨a, len, cap, m, n', D, Pl, h0, hb, hl, hm, hmm, _, hx⟩
  · simp only [List.cons.injEq, and_true] at h0
    exact ⟨none, 0, 0, [], h0, rfl, Nat.zero_le _, RdK.nil _ _ _ _, fun v hv => by cases hv⟩
  · simp only [List.cons.injEq, and_true] at h0
    have hlm : len ≤ m := by rw [hmm]; split <;> omega
    obtain ⟨F, hF⟩ := choose_lt (α := X11) (n := len) (p := fun i v => w.cells? 0 (a.add (i * 11)) 11 = some v.cs ∧ v.fits) (fun i hi => by
      obtain ⟨cs', h1, h2⟩ := hx i (by omega)
      rw [hc] at h1
      obtain ⟨y, rfl, hs⟩ := expr_cells h2
      exact ⟨y, h1, hs⟩)
    refine ⟨some a, len, cap, (List.range len).map F, h0, by simp, Nat.le_trans hl hm, fun i hi => ?_, fun v hv => ?_⟩
    · have hi2 : i < len := by simpa using hi
      obtain ⟨_, _, hcell⟩ := World.cells?_some (hF i hi2).1
      obtain ⟨b, off, spot⟩ := a
      have hs : spot = none := by
        obtain ⟨_, _, hcell0⟩ := World.cells?_some (hF 0 (by omega)).1
        have e := hcell0 0 (by omega)
        rw [add_add] at e
        simp only [X11.cs, List.getElem?_cons_zero] at e
        simpa [Addr.add] using World.cell?_spot e
      subst hs
      have ev : eAt ((List.range len).map F) i = F i := by rw [eAt_in hi]; simp
      rw [ev]
      refine ⟨b, off, rfl, fun j c hj => ?_⟩
      have hjk : j < 11 := by rw [← (F i).len]; exact (List.getElem?_eq_some_iff.1 hj).1
      have e := hcell j hjk
      rw [add_add, Addr.add_lit, hj] at e
      simpa [Nat.add_assoc] using e
    · obtain ⟨i, hi, rfl⟩ := List.mem_map.1 hv
      exact (hF i (List.mem_range.1 hi)).2
theorem rowOf_set_X11 (x : X11) : ∀ (L : List X11) (i : Nat), i < L.length →
    ((((((((((((rowOf X11.cs L).set (i * 11) (.string x.Op)).set (i * 11 + 1) (.int .i64 x.L.K)).set (i * 11 + 2) (.string x.L.S)).set (i * 11 + 3) (.int .i64 x.L.V.K)).set (i * 11 + 4) (.int .i64 x.L.V.N)).set (i * 11 + 5) (.string x.L.V.S)).set (i * 11 + 6) (.int .i64 x.R.K)).set (i * 11 + 7) (.string x.R.S)).set (i * 11 + 8) (.int .i64 x.R.V.K)).set (i * 11 + 9) (.int .i64 x.R.V.N)).set (i * 11 + 10) (.string x.R.V.S)) = rowOf X11.cs (L.set i x)
  | [], i, hi => absurd hi (Nat.not_lt_zero _)
  | y :: r, 0, hi => by
    rw [List.set_cons_zero, rowOf_cons, rowOf_cons]
    rfl
  | y :: r, i + 1, hi => by
    have ih := rowOf_set_X11 x r i (by simpa using hi)
    rw [List.set_cons_succ, rowOf_cons, rowOf_cons, ← ih]
    simp only [Nat.succ_mul, X11.cs]
    rfl
abbrev OwnExpr (w : World) (g cap : Nat) (L : List X11) : Prop := OwnK 41 X11.cs 11 w g cap L
theorem rdOwnExpr {w : World} {g cap : Nat} {L : List X11} (h : OwnExpr w g cap L) : RdExpr w (some ⟨g, 0, none⟩) L := OwnK.rd X11.len (by decide) h
end Go.Proofs.YtaflokfgbmlmaacDoor
/-
  Boxes of eleven cells, and two or three boxes side by side: their cells set, what stands.
-/
namespace Go.Proofs.YtaflokfgbmlmaacDoor
open Go.RowKit
set_option linter.unusedVariables false

theorem boxes3 (w : World) (c1 c2 c3 : Array Value) (T1 T2 T3 : TypeId) : (((w.alloc (.cells c1 T1)).alloc (.cells c2 T2)).alloc (.cells c3 T3)).heap[w.heap.size]? = some (.cells c1 T1 (0, 0)) ∧ (((w.alloc (.cells c1 T1)).alloc (.cells c2 T2)).alloc (.cells c3 T3)).heap[w.heap.size + 1]? = some (.cells c2 T2 (0, 0)) ∧ (((w.alloc (.cells c1 T1)).alloc (.cells c2 T2)).alloc (.cells c3 T3)).heap[w.heap.size + 1 + 1]? = some (.cells c3 T3 (0, 0)) ∧ Below w.heap.size w (((w.alloc (.cells c1 T1)).alloc (.cells c2 T2)).alloc (.cells c3 T3)) := by
  have b0 := below_al w (.cells c1 T1)
  have b1 := b0.alloc b0.size (.cells c2 T2)
  have b2 := b1.alloc b1.size (.cells c3 T3)
  have hA := box_old (box_old (boxk_new w c1 T1) (by simp) (.cells c2 T2)) (by simp; omega) (.cells c3 T3)
  have hR := box_old (boxk_new (w.alloc (.cells c1 T1)) c2 T2) (by simp) (.cells c3 T3)
  have hX := boxk_new ((w.alloc (.cells c1 T1)).alloc (.cells c2 T2)) c3 T3
  simp only [World.size_alloc] at hR hX
  exact ⟨hA, hR, hX, b2⟩
theorem boxes2 (w : World) (c1 c2 : Array Value) (T1 T2 : TypeId) : ((w.alloc (.cells c1 T1)).alloc (.cells c2 T2)).heap[w.heap.size]? = some (.cells c1 T1 (0, 0)) ∧ ((w.alloc (.cells c1 T1)).alloc (.cells c2 T2)).heap[w.heap.size + 1]? = some (.cells c2 T2 (0, 0)) ∧ Below w.heap.size w ((w.alloc (.cells c1 T1)).alloc (.cells c2 T2)) := by
  have b0 := below_al w (.cells c1 T1)
  have b1 := b0.alloc b0.size (.cells c2 T2)
  have hA := box_old (boxk_new w c1 T1) (by simp) (.cells c2 T2)
  have hX := boxk_new (w.alloc (.cells c1 T1)) c2 T2
  simp only [World.size_alloc] at hX
  exact ⟨hA, hX, b1⟩
theorem box11_set {w : World} {q : Nat} {c0 c1 c2 c3 c4 c5 c6 c7 c8 c9 c10 : Value} {T : TypeId} (h : w.heap[q]? = some (.cells #[c0, c1, c2, c3, c4, c5, c6, c7, c8, c9, c10] T (0, 0))) (v0 v1 v2 v3 v4 v5 v6 v7 v8 v9 v10 : Value) :
    (((((((((((w.setCell ⟨q, 0, none⟩ v0).setCell ⟨q, 1, none⟩ v1).setCell ⟨q, 2, none⟩ v2).setCell ⟨q, 3, none⟩ v3).setCell ⟨q, 4, none⟩ v4).setCell ⟨q, 5, none⟩ v5).setCell ⟨q, 6, none⟩ v6).setCell ⟨q, 7, none⟩ v7).setCell ⟨q, 8, none⟩ v8).setCell ⟨q, 9, none⟩ v9).setCell ⟨q, 10, none⟩ v10).heap[q]? = some (.cells #[v0, v1, v2, v3, v4, v5, v6, v7, v8, v9, v10] T (0, 0)) ∧ w.grownBy (((((((((((w.setCell ⟨q, 0, none⟩ v0).setCell ⟨q, 1, none⟩ v1).setCell ⟨q, 2, none⟩ v2).setCell ⟨q, 3, none⟩ v3).setCell ⟨q, 4, none⟩ v4).setCell ⟨q, 5, none⟩ v5).setCell ⟨q, 6, none⟩ v6).setCell ⟨q, 7, none⟩ v7).setCell ⟨q, 8, none⟩ v8).setCell ⟨q, 9, none⟩ v9).setCell ⟨q, 10, none⟩ v10) (some q) := by
  have g0 := (boxk_set h 0 v0).2
  have h0 : (w.setCell ⟨q, 0, none⟩ v0).heap[q]? = some (.cells #[v0, c1, c2, c3, c4, c5, c6, c7, c8, c9, c10] T (0, 0)) := (boxk_set h 0 v0).1
  have g1 := (boxk_set h0 1 v1).2
  have h1 : ((w.setCell ⟨q, 0, none⟩ v0).setCell ⟨q, 1, none⟩ v1).heap[q]? = some (.cells #[v0, v1, c2, c3, c4, c5, c6, c7, c8, c9, c10] T (0, 0)) := (boxk_set h0 1 v1).1
  have g2 := (boxk_set h1 2 v2).2
  have h2 : (((w.setCell ⟨q, 0, none⟩ v0).setCell ⟨q, 1, none⟩ v1).setCell ⟨q, 2, none⟩ v2).heap[q]? = some (.cells #[v0, v1, v2, c3, c4, c5, c6, c7, c8, c9, c10] T (0, 0)) := (boxk_set h1 2 v2).1
  have g3 := (boxk_set h2 3 v3).2
  have h3 : ((((w.setCell ⟨q, 0, none⟩ v0).setCell ⟨q, 1, none⟩ v1).setCell ⟨q, 2, none⟩ v2).setCell ⟨q, 3, none⟩ v3).heap[q]? = some (.cells #[v0, v1, v2, v3, c4, c5, c6, c7, c8, c9, c10] T (0, 0)) := (boxk_set h2 3 v3).1
  have g4 := (boxk_set h3 4 v4).2
  have h4 : (((((w.setCell ⟨q, 0, none⟩ v0).setCell ⟨q, 1, none⟩ v1).setCell ⟨q, 2, none⟩ v2).setCell ⟨q, 3, none⟩ v3).setCell ⟨q, 4, none⟩ v4).heap[q]? = some (.cells #[v0, v1, v2, v3, v4, c5, c6, c7, c8, c9, c10] T (0, 0)) := (boxk_set h3 4 v4).1
  have g5 := (boxk_set h4 5 v5).2
  have h5 : ((((((w.setCell ⟨q, 0, none⟩ v0).setCell ⟨q, 1, none⟩ v1).setCell ⟨q, 2, none⟩ v2).setCell ⟨q, 3, none⟩ v3).setCell ⟨q, 4, none⟩ v4).setCell ⟨q, 5, none⟩ v5).heap[q]? = some (.cells #[v0, v1, v2, v3, v4, v5, c6, c7, c8, c9, c10] T (0, 0)) := (boxk_set h4 5 v5).1
  have g6 := (boxk_set h5 6 v6).2
  have h6 : (((((((w.setCell ⟨q, 0, none⟩ v0).setCell ⟨q, 1, none⟩ v1).setCell ⟨q, 2, none⟩ v2).setCell ⟨q, 3, none⟩ v3).setCell ⟨q, 4, none⟩ v4).setCell ⟨q, 5, none⟩ v5).setCell ⟨q, 6, none⟩ v6).heap[q]? = some (.cells #[v0, v1, v2, v3, v4, v5, v6, c7, c8, c9, c10] T (0, 0)) := (boxk_set h5 6 v6).1
  have g7 := (boxk_set h6 7 v7).2
  have h7 : ((((((((w.setCell ⟨q, 0, none⟩ v0).setCell ⟨q, 1, none⟩ v1).setCell ⟨q, 2, none⟩ v2).setCell ⟨q, 3, none⟩ v3).setCell ⟨q, 4, none⟩ v4).setCell ⟨q, 5, none⟩ v5).setCell ⟨q, 6, none⟩ v6).setCell ⟨q, 7, none⟩ v7).heap[q]? = some (.cells #[v0, v1, v2, v3, v4, v5, v6, v7, c8, c9, c10] T (0, 0)) := (boxk_set h6 7 v7).1
  have g8 := (boxk_set h7 8 v8).2
  have h8 : (((((((((w.setCell ⟨q, 0, none⟩ v0).setCell ⟨q, 1, none⟩ v1).setCell ⟨q, 2, none⟩ v2).setCell ⟨q, 3, none⟩ v3).setCell ⟨q, 4, none⟩ v4).setCell ⟨q, 5, none⟩ v5).setCell ⟨q, 6, none⟩ v6).setCell ⟨q, 7, none⟩ v7).setCell ⟨q, 8, none⟩ v8).heap[q]? = some (.cells #[v0, v1, v2, v3, v4, v5, v6, v7, v8, c9, c10] T (0, 0)) := (boxk_set h7 8 v8).1
  have g9 := (boxk_set h8 9 v9).2
  have h9 : ((((((((((w.setCell ⟨q, 0, none⟩ v0).setCell ⟨q, 1, none⟩ v1).setCell ⟨q, 2, none⟩ v2).setCell ⟨q, 3, none⟩ v3).setCell ⟨q, 4, none⟩ v4).setCell ⟨q, 5, none⟩ v5).setCell ⟨q, 6, none⟩ v6).setCell ⟨q, 7, none⟩ v7).setCell ⟨q, 8, none⟩ v8).setCell ⟨q, 9, none⟩ v9).heap[q]? = some (.cells #[v0, v1, v2, v3, v4, v5, v6, v7, v8, v9, c10] T (0, 0)) := (boxk_set h8 9 v9).1
  have g10 := (boxk_set h9 10 v10).2
  have h10 : (((((((((((w.setCell ⟨q, 0, none⟩ v0).setCell ⟨q, 1, none⟩ v1).setCell ⟨q, 2, none⟩ v2).setCell ⟨q, 3, none⟩ v3).setCell ⟨q, 4, none⟩ v4).setCell ⟨q, 5, none⟩ v5).setCell ⟨q, 6, none⟩ v6).setCell ⟨q, 7, none⟩ v7).setCell ⟨q, 8, none⟩ v8).setCell ⟨q, 9, none⟩ v9).setCell ⟨q, 10, none⟩ v10).heap[q]? = some (.cells #[v0, v1, v2, v3, v4, v5, v6, v7, v8, v9, v10] T (0, 0)) := (boxk_set h9 10 v10).1
  exact ⟨h10, (grown_tt (grown_tt (grown_tt (grown_tt (grown_tt (grown_tt (grown_tt (grown_tt (grown_tt (grown_tt g0 g1) g2) g3) g4) g5) g6) g7) g8) g9) g10)⟩
theorem box11_setL {w : World} {q : Nat} {c0 c1 c2 c3 c4 c5 c6 c7 c8 c9 c10 : Value} {T : TypeId} (h : w.heap[q]? = some (.cells #[c0, c1, c2, c3, c4, c5, c6, c7, c8, c9, c10] T (0, 0))) (v1 v2 v3 v4 v5 : Value) :
    (((((w.setCell ⟨q, 1, none⟩ v1).setCell ⟨q, 2, none⟩ v2).setCell ⟨q, 3, none⟩ v3).setCell ⟨q, 4, none⟩ v4).setCell ⟨q, 5, none⟩ v5).heap[q]? = some (.cells #[c0, v1, v2, v3, v4, v5, c6, c7, c8, c9, c10] T (0, 0)) ∧ w.grownBy (((((w.setCell ⟨q, 1, none⟩ v1).setCell ⟨q, 2, none⟩ v2).setCell ⟨q, 3, none⟩ v3).setCell ⟨q, 4, none⟩ v4).setCell ⟨q, 5, none⟩ v5) (some q) := by
  have g1 := (boxk_set h 1 v1).2
  have h1 : (w.setCell ⟨q, 1, none⟩ v1).heap[q]? = some (.cells #[c0, v1, c2, c3, c4, c5, c6, c7, c8, c9, c10] T (0, 0)) := (boxk_set h 1 v1).1
  have g2 := (boxk_set h1 2 v2).2
  have h2 : ((w.setCell ⟨q, 1, none⟩ v1).setCell ⟨q, 2, none⟩ v2).heap[q]? = some (.cells #[c0, v1, v2, c3, c4, c5, c6, c7, c8, c9, c10] T (0, 0)) := (boxk_set h1 2 v2).1
  have g3 := (boxk_set h2 3 v3).2
  have h3 : (((w.setCell ⟨q, 1, none⟩ v1).setCell ⟨q, 2, none⟩ v2).setCell ⟨q, 3, none⟩ v3).heap[q]? = some (.cells #[c0, v1, v2, v3, c4, c5, c6, c7, c8, c9, c10] T (0, 0)) := (boxk_set h2 3 v3).1
  have g4 := (boxk_set h3 4 v4).2
  have h4 : ((((w.setCell ⟨q, 1, none⟩ v1).setCell ⟨q, 2, none⟩ v2).setCell ⟨q, 3, none⟩ v3).setCell ⟨q, 4, none⟩ v4).heap[q]? = some (.cells #[c0, v1, v2, v3, v4, c5, c6, c7, c8, c9, c10] T (0, 0)) := (boxk_set h3 4 v4).1
  have g5 := (boxk_set h4 5 v5).2
  have h5 : (((((w.setCell ⟨q, 1, none⟩ v1).setCell ⟨q, 2, none⟩ v2).setCell ⟨q, 3, none⟩ v3).setCell ⟨q, 4, none⟩ v4).setCell ⟨q, 5, none⟩ v5).heap[q]? = some (.cells #[c0, v1, v2, v3, v4, v5, c6, c7, c8, c9, c10] T (0, 0)) := (boxk_set h4 5 v5).1
  exact ⟨h5, (grown_tt (grown_tt (grown_tt (grown_tt g1 g2) g3) g4) g5)⟩
theorem box11_setR {w : World} {q : Nat} {c0 c1 c2 c3 c4 c5 c6 c7 c8 c9 c10 : Value} {T : TypeId} (h : w.heap[q]? = some (.cells #[c0, c1, c2, c3, c4, c5, c6, c7, c8, c9, c10] T (0, 0))) (v6 v7 v8 v9 v10 : Value) :
    (((((w.setCell ⟨q, 6, none⟩ v6).setCell ⟨q, 7, none⟩ v7).setCell ⟨q, 8, none⟩ v8).setCell ⟨q, 9, none⟩ v9).setCell ⟨q, 10, none⟩ v10).heap[q]? = some (.cells #[c0, c1, c2, c3, c4, c5, v6, v7, v8, v9, v10] T (0, 0)) ∧ w.grownBy (((((w.setCell ⟨q, 6, none⟩ v6).setCell ⟨q, 7, none⟩ v7).setCell ⟨q, 8, none⟩ v8).setCell ⟨q, 9, none⟩ v9).setCell ⟨q, 10, none⟩ v10) (some q) := by
  have g6 := (boxk_set h 6 v6).2
  have h6 : (w.setCell ⟨q, 6, none⟩ v6).heap[q]? = some (.cells #[c0, c1, c2, c3, c4, c5, v6, c7, c8, c9, c10] T (0, 0)) := (boxk_set h 6 v6).1
  have g7 := (boxk_set h6 7 v7).2
  have h7 : ((w.setCell ⟨q, 6, none⟩ v6).setCell ⟨q, 7, none⟩ v7).heap[q]? = some (.cells #[c0, c1, c2, c3, c4, c5, v6, v7, c8, c9, c10] T (0, 0)) := (boxk_set h6 7 v7).1
  have g8 := (boxk_set h7 8 v8).2
  have h8 : (((w.setCell ⟨q, 6, none⟩ v6).setCell ⟨q, 7, none⟩ v7).setCell ⟨q, 8, none⟩ v8).heap[q]? = some (.cells #[c0, c1, c2, c3, c4, c5, v6, v7, v8, c9, c10] T (0, 0)) := (boxk_set h7 8 v8).1
  have g9 := (boxk_set h8 9 v9).2
  have h9 : ((((w.setCell ⟨q, 6, none⟩ v6).setCell ⟨q, 7, none⟩ v7).setCell ⟨q, 8, none⟩ v8).setCell ⟨q, 9, none⟩ v9).heap[q]? = some (.cells #[c0, c1, c2, c3, c4, c5, v6, v7, v8, v9, c10] T (0, 0)) := (boxk_set h8 9 v9).1
  have g10 := (boxk_set h9 10 v10).2
  have h10 : (((((w.setCell ⟨q, 6, none⟩ v6).setCell ⟨q, 7, none⟩ v7).setCell ⟨q, 8, none⟩ v8).setCell ⟨q, 9, none⟩ v9).setCell ⟨q, 10, none⟩ v10).heap[q]? = some (.cells #[c0, c1, c2, c3, c4, c5, v6, v7, v8, v9, v10] T (0, 0)) := (boxk_set h9 10 v10).1
  exact ⟨h10, (grown_tt (grown_tt (grown_tt (grown_tt g6 g7) g8) g9) g10)⟩
theorem box11_post {P : Program} {f : Func} {Q : Ending → World → Prop} {x : Exit} {act : Act} {w : World} {q : Nat} {c0 c1 c2 c3 c4 c5 c6 c7 c8 c9 c10 v0 v1 v2 v3 v4 v5 v6 v7 v8 v9 v10 : Value} {T : TypeId} (h : w.heap[q]? = some (.cells #[c0, c1, c2, c3, c4, c5, c6, c7, c8, c9, c10] T (0, 0)))
    (k : ∀ w2, w2.heap[q]? = some (.cells #[v0, v1, v2, v3, v4, v5, v6, v7, v8, v9, v10] T (0, 0)) → w.grownBy w2 (some q) → bodyPost P f Q x act w2) : bodyPost P f Q x act (((((((((((w.setCell ⟨q, 0, none⟩ v0).setCell ⟨q, 1, none⟩ v1).setCell ⟨q, 2, none⟩ v2).setCell ⟨q, 3, none⟩ v3).setCell ⟨q, 4, none⟩ v4).setCell ⟨q, 5, none⟩ v5).setCell ⟨q, 6, none⟩ v6).setCell ⟨q, 7, none⟩ v7).setCell ⟨q, 8, none⟩ v8).setCell ⟨q, 9, none⟩ v9).setCell ⟨q, 10, none⟩ v10) :=
  k _ (box11_set h v0 v1 v2 v3 v4 v5 v6 v7 v8 v9 v10).1 (box11_set h v0 v1 v2 v3 v4 v5 v6 v7 v8 v9 v10).2
end Go.Proofs.YtaflokfgbmlmaacDoor
/-
  The contracts of the laws' own helpers on Exprs: to copies, sz counts off, eq finds one the same as itself.
-/
namespace Go.Proofs.YtaflokfgbmlmaacDoor
open Go.RowKit
set_option linter.unusedVariables false

theorem Tryd.info41 : (Tryd.prog.info? 41).map (fun i => (i.zero, i.size, i.bytes)) = some (some (.agg #[.string ⟨#[]⟩, .int .i64 0, .string ⟨#[]⟩, .int .i64 0, .int .i64 0, .string ⟨#[]⟩, .int .i64 0, .string ⟨#[]⟩, .int .i64 0, .int .i64 0, .string ⟨#[]⟩]), 11, 128) := by kernel_rfl

set_option maxRecDepth 100000 in
set_option maxHeartbeats 3200000 in
theorem toExpr_any (Op : ByteArray) (LK : Int) (LS : ByteArray) (LVK : Int) (LVN : Int) (LVS : ByteArray) (RK : Int) (RS : ByteArray) (RVK : Int) (RVN : Int) (RVS : ByteArray) (w : World) :
    Calls Tryd.prog 85 #[.agg #[.string Op, .int .i64 LK, .string LS, .int .i64 LVK, .int .i64 LVN, .string LVS, .int .i64 RK, .string RS, .int .i64 RVK, .int .i64 RVN, .string RVS]] w fun e w' => e = .returned (.agg #[.string Op, .int .i64 LK, .string LS, .int .i64 LVK, .int .i64 LVN, .string LVS, .int .i64 RK, .string RS, .int .i64 RVK, .int .i64 RVN, .string RVS]) ∧ Below w.heap.size w w' := by
  go_enter Tryd.func85, Tryd.ntmps85
  go_wp2_with fail
  obtain ⟨hA, hR, hX, b2⟩ := boxes3 w #[.string Op, .int .i64 LK, .string LS, .int .i64 LVK, .int .i64 LVN, .string LVS, .int .i64 RK, .string RS, .int .i64 RVK, .int .i64 RVN, .string RVS] #[.string ⟨#[]⟩, .int .i64 0, .string ⟨#[]⟩, .int .i64 0, .int .i64 0, .string ⟨#[]⟩, .int .i64 0, .string ⟨#[]⟩, .int .i64 0, .int .i64 0, .string ⟨#[]⟩] #[.string Op, .int .i64 0, .string ⟨#[]⟩, .int .i64 0, .int .i64 0, .string ⟨#[]⟩, .int .i64 0, .string ⟨#[]⟩, .int .i64 0, .int .i64 0, .string ⟨#[]⟩] 114 41 41
  refine (toArg_any LK LS LVK LVN LVS _).mono ?_
  rintro e w1 ⟨rfl, hb⟩
  have HA := hide (box_below hA hb (by simp; omega))
  have HR := hide (box_below hR hb (by simp))
  have HX := hide (box_below hX hb (by simp))
  have hB : Below w.heap.size w w1 := b2.trans (hb.mono b2.size)
  clear hb hR hX hA b2
  have x0 := boxk_cell HX.out 0 _ rfl
  have xf0 := boxk_frozen HX.out 0
  have x1 := boxk_cell HX.out 1 _ rfl
  have xf1 := boxk_frozen HX.out 1
  have x2 := boxk_cell HX.out 2 _ rfl
  have xf2 := boxk_frozen HX.out 2
  have x3 := boxk_cell HX.out 3 _ rfl
  have xf3 := boxk_frozen HX.out 3
  have x4 := boxk_cell HX.out 4 _ rfl
  have xf4 := boxk_frozen HX.out 4
  have x5 := boxk_cell HX.out 5 _ rfl
  have xf5 := boxk_frozen HX.out 5
  have x6 := boxk_cell HX.out 6 _ rfl
  have xf6 := boxk_frozen HX.out 6
  have x7 := boxk_cell HX.out 7 _ rfl
  have xf7 := boxk_frozen HX.out 7
  have x8 := boxk_cell HX.out 8 _ rfl
  have xf8 := boxk_frozen HX.out 8
  have x9 := boxk_cell HX.out 9 _ rfl
  have xf9 := boxk_frozen HX.out 9
  have x10 := boxk_cell HX.out 10 _ rfl
  have xf10 := boxk_frozen HX.out 10
  have a6 := boxk_cell HA.out 6 _ rfl
  have a7 := boxk_cell HA.out 7 _ rfl
  have a8 := boxk_cell HA.out 8 _ rfl
  have a9 := boxk_cell HA.out 9 _ rfl
  have a10 := boxk_cell HA.out 10 _ rfl
  have HL := hide (box11_setL HX.out (.int .i64 LK) (.string LS) (.int .i64 LVK) (.int .i64 LVN) (.string LVS))
  have HRs := hide (box_gr HR.out HL.out.2 (by omega))
  have HBs := hide (below_set hB HL.out.2 (by omega))
  have HXs := hide HL.out.1
  go_wp2_with fail
  refine (toArg_any RK RS RVK RVN RVS _).mono ?_
  clear x0 xf0 x1 xf1 x2 xf2 x3 xf3 x4 xf4 x5 xf5 x6 xf6 x7 xf7 x8 xf8 x9 xf9 x10 xf10 a6 a7 a8 a9 a10 HX HR HA hB HL
  generalize (((((w1.setCell ⟨w.heap.size + 1 + 1, 1, none⟩ (.int .i64 LK)).setCell ⟨w.heap.size + 1 + 1, 2, none⟩ (.string LS)).setCell ⟨w.heap.size + 1 + 1, 3, none⟩ (.int .i64 LVK)).setCell ⟨w.heap.size + 1 + 1, 4, none⟩ (.int .i64 LVN)).setCell ⟨w.heap.size + 1 + 1, 5, none⟩ (.string LVS)) = w2 at HRs HBs HXs
  rintro e w3 ⟨rfl, hb⟩
  have HR3 := hide (box_step HRs.out hb)
  have HX3 := hide (box_step HXs.out hb)
  have hB3 : Below w.heap.size w w3 := HBs.out.trans (hb.mono HBs.out.size)
  clear hb HRs HBs HXs
  have x0 := boxk_cell HX3.out 0 _ rfl
  have xf0 := boxk_frozen HX3.out 0
  have x1 := boxk_cell HX3.out 1 _ rfl
  have xf1 := boxk_frozen HX3.out 1
  have x2 := boxk_cell HX3.out 2 _ rfl
  have xf2 := boxk_frozen HX3.out 2
  have x3 := boxk_cell HX3.out 3 _ rfl
  have xf3 := boxk_frozen HX3.out 3
  have x4 := boxk_cell HX3.out 4 _ rfl
  have xf4 := boxk_frozen HX3.out 4
  have x5 := boxk_cell HX3.out 5 _ rfl
  have xf5 := boxk_frozen HX3.out 5
  have x6 := boxk_cell HX3.out 6 _ rfl
  have xf6 := boxk_frozen HX3.out 6
  have x7 := boxk_cell HX3.out 7 _ rfl
  have xf7 := boxk_frozen HX3.out 7
  have x8 := boxk_cell HX3.out 8 _ rfl
  have xf8 := boxk_frozen HX3.out 8
  have x9 := boxk_cell HX3.out 9 _ rfl
  have xf9 := boxk_frozen HX3.out 9
  have x10 := boxk_cell HX3.out 10 _ rfl
  have xf10 := boxk_frozen HX3.out 10
  have HX6 := hide (box11_setR HX3.out (.int .i64 RK) (.string RS) (.int .i64 RVK) (.int .i64 RVN) (.string RVS))
  have HR4 := hide (box_gr HR3.out HX6.out.2 (by omega))
  have HB4 := hide (below_set hB3 HX6.out.2 (by omega))
  have HX7 := hide HX6.out.1
  go_upto_region 5 with fail
  clear x0 xf0 x1 xf1 x2 xf2 x3 xf3 x4 xf4 x5 xf5 x6 xf6 x7 xf7 x8 xf8 x9 xf9 x10 xf10 HX6 HX3 HR3 hB3
  generalize (((((w3.setCell ⟨w.heap.size + 1 + 1, 6, none⟩ (.int .i64 RK)).setCell ⟨w.heap.size + 1 + 1, 7, none⟩ (.string RS)).setCell ⟨w.heap.size + 1 + 1, 8, none⟩ (.int .i64 RVK)).setCell ⟨w.heap.size + 1 + 1, 9, none⟩ (.int .i64 RVN)).setCell ⟨w.heap.size + 1 + 1, 10, none⟩ (.string RVS)) = w5 at HR4 HB4 HX7
  have x0 := boxk_cell HX7.out 0 _ rfl
  have r0 := boxk_cell HR4.out 0 _ rfl
  have rf0 := boxk_frozen HR4.out 0
  have x1 := boxk_cell HX7.out 1 _ rfl
  have r1 := boxk_cell HR4.out 1 _ rfl
  have rf1 := boxk_frozen HR4.out 1
  have x2 := boxk_cell HX7.out 2 _ rfl
  have r2 := boxk_cell HR4.out 2 _ rfl
  have rf2 := boxk_frozen HR4.out 2
  have x3 := boxk_cell HX7.out 3 _ rfl
  have r3 := boxk_cell HR4.out 3 _ rfl
  have rf3 := boxk_frozen HR4.out 3
  have x4 := boxk_cell HX7.out 4 _ rfl
  have r4 := boxk_cell HR4.out 4 _ rfl
  have rf4 := boxk_frozen HR4.out 4
  have x5 := boxk_cell HX7.out 5 _ rfl
  have r5 := boxk_cell HR4.out 5 _ rfl
  have rf5 := boxk_frozen HR4.out 5
  have x6 := boxk_cell HX7.out 6 _ rfl
  have r6 := boxk_cell HR4.out 6 _ rfl
  have rf6 := boxk_frozen HR4.out 6
  have x7 := boxk_cell HX7.out 7 _ rfl
  have r7 := boxk_cell HR4.out 7 _ rfl
  have rf7 := boxk_frozen HR4.out 7
  have x8 := boxk_cell HX7.out 8 _ rfl
  have r8 := boxk_cell HR4.out 8 _ rfl
  have rf8 := boxk_frozen HR4.out 8
  have x9 := boxk_cell HX7.out 9 _ rfl
  have r9 := boxk_cell HR4.out 9 _ rfl
  have rf9 := boxk_frozen HR4.out 9
  have x10 := boxk_cell HX7.out 10 _ rfl
  have r10 := boxk_cell HR4.out 10 _ rfl
  have rf10 := boxk_frozen HR4.out 10
  go_wp2
  refine box11_post HR4.out (fun w4 h4 gr => ?_)
  clear x0 r0 rf0 x1 r1 rf1 x2 r2 rf2 x3 r3 rf3 x4 r4 rf4 x5 r5 rf5 x6 r6 rf6 x7 r7 rf7 x8 r8 rf8 x9 r9 rf9 x10 r10 rf10
  have c0 := boxk_cell h4 0 _ rfl
  have c1 := boxk_cell h4 1 _ rfl
  have c2 := boxk_cell h4 2 _ rfl
  have c3 := boxk_cell h4 3 _ rfl
  have c4 := boxk_cell h4 4 _ rfl
  have c5 := boxk_cell h4 5 _ rfl
  have c6 := boxk_cell h4 6 _ rfl
  have c7 := boxk_cell h4 7 _ rfl
  have c8 := boxk_cell h4 8 _ rfl
  have c9 := boxk_cell h4 9 _ rfl
  have c10 := boxk_cell h4 10 _ rfl
  exact bodyPost_ret (v := .agg #[.string Op, .int .i64 LK, .string LS, .int .i64 LVK, .int .i64 LVN, .string LVS, .int .i64 RK, .string RS, .int .i64 RVK, .int .i64 RVN, .string RVS]) (by simp [results, Tryd.results85, go_sem, c0, c1, c2, c3, c4, c5, c6, c7, c8, c9, c10]) rfl ⟨rfl, below_set HB4.out gr (by omega)⟩

set_option maxRecDepth 100000 in
set_option maxHeartbeats 1600000 in
theorem szExpr_any (Op : ByteArray) (LK : Int) (LS : ByteArray) (LVK : Int) (LVN : Int) (LVS : ByteArray) (RK : Int) (RS : ByteArray) (RVK : Int) (RVN : Int) (RVS : ByteArray) (left : Int) (w : World) (so : Op.size ≤ maxLen) (s0 : LS.size ≤ maxLen) (s1 : LVS.size ≤ maxLen) (s2 : RS.size ≤ maxLen) (s3 : RVS.size ≤ maxLen) (h0 : 0 ≤ left) (h1 : left ≤ 1048576) :
    Calls Tryd.prog 83 #[.agg #[.string Op, .int .i64 LK, .string LS, .int .i64 LVK, .int .i64 LVN, .string LVS, .int .i64 RK, .string RS, .int .i64 RVK, .int .i64 RVN, .string RVS], .int .i64 left] w fun e w' =>
      (∃ r, e = .returned (.int .i64 r) ∧ (r = -1 ∨ (0 ≤ r ∧ r + (Op.size : Int) + (LS.size : Int) + (LVS.size : Int) + (RS.size : Int) + (RVS.size : Int) ≤ left))) ∧ Below w.heap.size w w' := by
  unfold maxLen at so
  by_cases hz : left - (Op.size : Int) < 0
  · go_enter Tryd.func83, Tryd.ntmps83
    go_wp2
    go_ret
    exact ⟨⟨-1, rfl, .inl rfl⟩, by go_grown⟩
  · go_enter Tryd.func83, Tryd.ntmps83
    go_wp2_with fail
    have b0 := below_al w (.cells #[.string Op, .int .i64 LK, .string LS, .int .i64 LVK, .int .i64 LVN, .string LVS, .int .i64 RK, .string RS, .int .i64 RVK, .int .i64 RVN, .string RVS] 114)
    have hA := boxk_new w #[.string Op, .int .i64 LK, .string LS, .int .i64 LVK, .int .i64 LVN, .string LVS, .int .i64 RK, .string RS, .int .i64 RVK, .int .i64 RVN, .string RVS] 114
    refine (szArg_any LK LS LVK LVN LVS (left - Op.size) _ s0 s1 (by omega) (by omega)).mono ?_
    rintro e w1 ⟨⟨r, rfl, hr⟩, hb1⟩
    have HA1 := hide (box_below hA hb1 (by simp))
    have hB1 : Below w.heap.size w w1 := b0.trans (hb1.mono b0.size)
    clear hb1 b0 hA
    rcases hr with rfl | ⟨h2, h3⟩
    · go_wp2
      go_ret
      exact ⟨⟨-1, rfl, .inl rfl⟩, hB1⟩
    · have H3 := hide h3
      have h4 : r ≤ 1048576 := by omega
      clear h3
      have a6 := boxk_cell HA1.out 6 _ rfl
      have a7 := boxk_cell HA1.out 7 _ rfl
      have a8 := boxk_cell HA1.out 8 _ rfl
      have a9 := boxk_cell HA1.out 9 _ rfl
      have a10 := boxk_cell HA1.out 10 _ rfl
      go_wp2_with fail
      refine (szArg_any RK RS RVK RVN RVS r _ s2 s3 h2 h4).mono ?_
      rintro e w2 ⟨⟨r2, rfl, hr2⟩, hb2⟩
      have hB2 : Below w.heap.size w w2 := hB1.trans (hb2.mono hB1.size)
      clear hb2 hB1 HA1 a6 a7 a8 a9 a10
      rcases hr2 with rfl | ⟨h5, h6⟩
      · go_wp2
        go_ret
        exact ⟨⟨-1, rfl, .inl rfl⟩, hB2⟩
      · have H6 := hide h6
        clear h6
        go_wp2
        go_ret
        have := H3.out
        have := H6.out
        exact ⟨⟨_, rfl, .inr ⟨h5, by omega⟩⟩, hB2⟩

set_option maxRecDepth 100000 in
set_option maxHeartbeats 1600000 in
theorem eqExpr_same (Op : ByteArray) (LK : Int) (LS : ByteArray) (LVK : Int) (LVN : Int) (LVS : ByteArray) (RK : Int) (RS : ByteArray) (RVK : Int) (RVN : Int) (RVS : ByteArray) (w : World) :
    Calls Tryd.prog 88 #[.agg #[.string Op, .int .i64 LK, .string LS, .int .i64 LVK, .int .i64 LVN, .string LVS, .int .i64 RK, .string RS, .int .i64 RVK, .int .i64 RVN, .string RVS], .agg #[.string Op, .int .i64 LK, .string LS, .int .i64 LVK, .int .i64 LVN, .string LVS, .int .i64 RK, .string RS, .int .i64 RVK, .int .i64 RVN, .string RVS]] w fun e w' => e = .returned (.bool true) ∧ Below w.heap.size w w' := by
  have kO : (Op.toList == Op.toList) = true := by simp
  go_enter Tryd.func88, Tryd.ntmps88
  go_wp2_with fail
  obtain ⟨hA, hD, b1⟩ := boxes2 w #[.string Op, .int .i64 LK, .string LS, .int .i64 LVK, .int .i64 LVN, .string LVS, .int .i64 RK, .string RS, .int .i64 RVK, .int .i64 RVN, .string RVS] #[.string Op, .int .i64 LK, .string LS, .int .i64 LVK, .int .i64 LVN, .string LVS, .int .i64 RK, .string RS, .int .i64 RVK, .int .i64 RVN, .string RVS] 41 41
  refine (eqArg_same LK LS LVK LVN LVS _).mono ?_
  rintro e w1 ⟨rfl, hb⟩
  have HA := hide (box_below hA hb (by simp; omega))
  have HD := hide (box_below hD hb (by simp))
  have hB : Below w.heap.size w w1 := b1.trans (hb.mono b1.size)
  clear hb hA hD b1
  have a6 := boxk_cell HA.out 6 _ rfl
  have d6 := boxk_cell HD.out 6 _ rfl
  have a7 := boxk_cell HA.out 7 _ rfl
  have d7 := boxk_cell HD.out 7 _ rfl
  have a8 := boxk_cell HA.out 8 _ rfl
  have d8 := boxk_cell HD.out 8 _ rfl
  have a9 := boxk_cell HA.out 9 _ rfl
  have d9 := boxk_cell HD.out 9 _ rfl
  have a10 := boxk_cell HA.out 10 _ rfl
  have d10 := boxk_cell HD.out 10 _ rfl
  go_wp2_with fail
  refine (eqArg_same RK RS RVK RVN RVS _).mono ?_
  rintro e w2 ⟨rfl, hb⟩
  have hB2 : Below w.heap.size w w2 := hB.trans (hb.mono hB.size)
  go_wp2
  go_ret
  exact ⟨rfl, hB2⟩
end Go.Proofs.YtaflokfgbmlmaacDoor
/-
  Terms that are drawn.
-/
namespace Go.Proofs.YtaflokfgbmlmaacDoor
open Go.RowKit
set_option linter.unusedVariables false

theorem src_row (W : World) (cs : Array Value) (T : TypeId) : ∀ j u, cs.toList[j]? = some u → (W.alloc (.cells cs T)).cell? ((⟨W.heap.size, 0, none⟩ : Addr).add j) = some u := by
  intro j u hj
  rw [Addr.add_lit, Nat.zero_add]
  have hb : (W.alloc (.cells cs T)).heap[W.heap.size]? = some (.cells cs T (0, 0)) := by rw [heap_alloc_new]
  rw [cell_of_row _ _ j _ _ (0, 0) hb]
  simpa using hj
theorem one_x (x : X11) : ∀ u ∈ x.cs, u.oneCell' = true := by
  intro u hu
  simp only [X11.cs, List.mem_cons, List.not_mem_nil, or_false] at hu
  rcases hu with rfl | rfl | rfl | rfl | rfl | rfl | rfl | rfl | rfl | rfl | rfl <;> rfl
/-- a term lies in a box X on the way, the result's box R is as it was made -/
structure ExAt (w : World) (B q R X : Nat) (W : World) (y : X11) : Prop where
  cur : Cur B W q
  box : W.heap[X]? = some (.cells #[.string y.Op, .int .i64 y.L.K, .string y.L.S, .int .i64 y.L.V.K, .int .i64 y.L.V.N, .string y.L.V.S, .int .i64 y.R.K, .string y.R.S, .int .i64 y.R.V.K, .int .i64 y.R.V.N, .string y.R.V.S] 41 (0, 0))
  res : W.heap[R]? = some (.cells #[.string ⟨#[]⟩, .int .i64 0, .string ⟨#[]⟩, .int .i64 0, .int .i64 0, .string ⟨#[]⟩, .int .i64 0, .string ⟨#[]⟩, .int .i64 0, .int .i64 0, .string ⟨#[]⟩] 41 (0, 0))
  gr : w.grownBy W (some q)
  small : y.small
theorem ExAt.draws {w W W' : World} {B q R X : Nat} {y : X11} (h : ExAt w B q R X W y) (hX : X ≠ q) (hR : R ≠ q) (c : Cur B W' q) (g : W.grownBy W' (some q)) : ExAt w B q R X W' y :=
  ⟨c, box_grown h.box g hX, box_grown h.res g hR, grown_trans h.gr g, h.small⟩
theorem ExAt.put {w W W' : World} {B q R X : Nat} {y z : X11} (h : ExAt w B q R X W y) (hX : X ≠ q) (hXR : X ≠ R) (hB : B ≤ X) (hw : w.heap.size ≤ X) (g : W.grownBy W' (some X)) (hb : W'.heap[X]? = some (.cells #[.string z.Op, .int .i64 z.L.K, .string z.L.S, .int .i64 z.L.V.K, .int .i64 z.L.V.N, .string z.L.V.S, .int .i64 z.R.K, .string z.R.S, .int .i64 z.R.V.K, .int .i64 z.R.V.N, .string z.R.V.S] 41 (0, 0))) (hs : z.small) : ExAt w B q R X W' z :=
  ⟨h.cur.keep g (by simp; exact hX) (by intro k hk; cases hk; exact hB), hb, box_grown h.res g (fun e => hXR e.symm), grown_more h.gr g (by intro k hk; cases hk; exact hw), hs⟩
theorem ExAt.alloc {w W : World} {B q R X : Nat} {y : X11} (h : ExAt w B q R X W y) (o : Obj) : ExAt w B q R X (W.alloc o) y :=
  ⟨h.cur.keep (World.grownBy_alloc W o none) (by simp) (by simp), box_alloc h.box o, box_alloc h.res o, grown_trans h.gr (grown_alloc W o q), h.small⟩
theorem boxx_set0 {w : World} {q : Nat} {c0 c1 c2 c3 c4 c5 c6 c7 c8 c9 c10 : Value} {T : TypeId} (h : w.heap[q]? = some (.cells #[c0, c1, c2, c3, c4, c5, c6, c7, c8, c9, c10] T (0, 0))) (v : Value) :
    (w.setCell ⟨q, 0, none⟩ v).heap[q]? = some (.cells #[v, c1, c2, c3, c4, c5, c6, c7, c8, c9, c10] T (0, 0)) ∧ w.grownBy (w.setCell ⟨q, 0, none⟩ v) (some q) := boxk_set h 0 v
def DrawnX (w : World) (B q : Nat) (e : Ending) (w' : World) : Prop := ∃ x : X11, e = .returned (.agg #[.string x.Op, .int .i64 x.L.K, .string x.L.S, .int .i64 x.L.V.K, .int .i64 x.L.V.N, .string x.L.V.S, .int .i64 x.R.K, .string x.R.S, .int .i64 x.R.V.K, .int .i64 x.R.V.N, .string x.R.V.S]) ∧ x.small ∧ (x.L.K = 2 → x.L.V.ok = true) ∧ Cur B w' q ∧ w.grownBy w' (some q)

set_option maxRecDepth 100000 in
set_option maxHeartbeats 6400000 in
theorem l8Expr_any (B q : Nat) (w : World) (hc : Cur B w q) :
    Calls Tryd.prog 91 #[.pointer (some ⟨q, 0, none⟩)] w (DrawnX w B q) := by
  have hq := hc.lt
  have hB := hc.1
  go_enter Tryd.func91, Tryd.ntmps91
  go_wp2_with fail
  have c0 : Cur B (w.alloc (.cells #[.string ⟨#[]⟩, .int .i64 0, .string ⟨#[]⟩, .int .i64 0, .int .i64 0, .string ⟨#[]⟩, .int .i64 0, .string ⟨#[]⟩, .int .i64 0, .int .i64 0, .string ⟨#[]⟩] 41)) q := hc.keep (World.grownBy_alloc w _ none) (by simp) (by simp)
  have hR := boxk_new w #[.string ⟨#[]⟩, .int .i64 0, .string ⟨#[]⟩, .int .i64 0, .int .i64 0, .string ⟨#[]⟩, .int .i64 0, .string ⟨#[]⟩, .int .i64 0, .int .i64 0, .string ⟨#[]⟩] 41
  have G0 := grown_alloc w (.cells #[.string ⟨#[]⟩, .int .i64 0, .string ⟨#[]⟩, .int .i64 0, .int .i64 0, .string ⟨#[]⟩, .int .i64 0, .string ⟨#[]⟩, .int .i64 0, .int .i64 0, .string ⟨#[]⟩] 41) q
  refine (l7Arg_ok B q _ c0).mono ?_
  rintro e w1 ⟨l, rfl, hl, hlo, c1, g1⟩
  have HR := hide (box_grown hR g1 (by omega))
  have G1 : w.grownBy w1 (some q) := grown_trans G0 g1
  have HLo := hide hlo
  have z1 := G1.size
  have l1 := (Array.getElem?_eq_some_iff.1 HR.out).1
  have hqX : w1.heap.size ≠ q := by have := c1.lt; omega
  have hRX : w1.heap.size ≠ w.heap.size := by omega
  have hRq : w.heap.size ≠ q := by omega
  have hBX : B ≤ w1.heap.size := by omega
  have D0 : ExAt w B q w.heap.size w1.heap.size (w1.alloc (.cells #[.string ⟨#[]⟩, .int .i64 l.K, .string l.S, .int .i64 l.V.K, .int .i64 l.V.N, .string l.V.S, .int .i64 0, .string ⟨#[]⟩, .int .i64 0, .int .i64 0, .string ⟨#[]⟩] 41)) ⟨⟨#[]⟩, l, A5.zero⟩ :=
    ⟨c1.keep (World.grownBy_alloc w1 _ none) (by simp) (by simp), boxk_new w1 _ _, box_old HR.out l1 _, grown_trans G1 (grown_alloc w1 _ q), ⟨emp_small, hl, emp_small, emp_small⟩⟩
  clear g1 hR G0 c0 HR G1 c1 hc hlo
  go_wp2_with fail
  generalize w1.alloc (.cells #[.string ⟨#[]⟩, .int .i64 l.K, .string l.S, .int .i64 l.V.K, .int .i64 l.V.N, .string l.V.S, .int .i64 0, .string ⟨#[]⟩, .int .i64 0, .int .i64 0, .string ⟨#[]⟩] 41) = w2 at D0
  refine (l1Once_any B q 4 _ D0.cur (by omega) (by omega)).mono ?_
  rintro e w3 ⟨bb, rfl, c3, g3⟩
  have D3 := hide (D0.draws hqX hRq c3 g3)
  clear D0 c3 g3
  cases bb
  · obtain ⟨y, hy⟩ : ∃ y : X11, y = ⟨⟨#[]⟩, l, A5.zero⟩ := ⟨_, rfl⟩
    have HY : Hid (y.L.K = 2 → y.L.V.ok = true) := by unfold Hid; rw [hy]; exact HLo.out
    rw [← hy] at D3
    clear hy
    have l5 := (Array.getElem?_eq_some_iff.1 D3.out.res).1
    have a0 := boxk_cell D3.out.box 0 _ rfl
    have a1 := boxk_cell D3.out.box 1 _ rfl
    have a2 := boxk_cell D3.out.box 2 _ rfl
    have a3 := boxk_cell D3.out.box 3 _ rfl
    have a4 := boxk_cell D3.out.box 4 _ rfl
    have a5 := boxk_cell D3.out.box 5 _ rfl
    have a6 := boxk_cell D3.out.box 6 _ rfl
    have a7 := boxk_cell D3.out.box 7 _ rfl
    have a8 := boxk_cell D3.out.box 8 _ rfl
    have a9 := boxk_cell D3.out.box 9 _ rfl
    have a10 := boxk_cell D3.out.box 10 _ rfl
    have r0 := boxk_cell D3.out.res 0 _ rfl
    have f0 := boxk_frozen D3.out.res 0
    have r1 := boxk_cell D3.out.res 1 _ rfl
    have f1 := boxk_frozen D3.out.res 1
    have r2 := boxk_cell D3.out.res 2 _ rfl
    have f2 := boxk_frozen D3.out.res 2
    have r3 := boxk_cell D3.out.res 3 _ rfl
    have f3 := boxk_frozen D3.out.res 3
    have r4 := boxk_cell D3.out.res 4 _ rfl
    have f4 := boxk_frozen D3.out.res 4
    have r5 := boxk_cell D3.out.res 5 _ rfl
    have f5 := boxk_frozen D3.out.res 5
    have r6 := boxk_cell D3.out.res 6 _ rfl
    have f6 := boxk_frozen D3.out.res 6
    have r7 := boxk_cell D3.out.res 7 _ rfl
    have f7 := boxk_frozen D3.out.res 7
    have r8 := boxk_cell D3.out.res 8 _ rfl
    have f8 := boxk_frozen D3.out.res 8
    have r9 := boxk_cell D3.out.res 9 _ rfl
    have f9 := boxk_frozen D3.out.res 9
    have r10 := boxk_cell D3.out.res 10 _ rfl
    have f10 := boxk_frozen D3.out.res 10
    go_wp2
    refine box11_post D3.out.res (fun w6 h6 gr => ?_)
    clear a0 r0 f0 a1 r1 f1 a2 r2 f2 a3 r3 f3 a4 r4 f4 a5 r5 f5 a6 r6 f6 a7 r7 f7 a8 r8 f8 a9 r9 f9 a10 r10 f10
    have b0 := boxk_cell h6 0 _ rfl
    have b1 := boxk_cell h6 1 _ rfl
    have b2 := boxk_cell h6 2 _ rfl
    have b3 := boxk_cell h6 3 _ rfl
    have b4 := boxk_cell h6 4 _ rfl
    have b5 := boxk_cell h6 5 _ rfl
    have b6 := boxk_cell h6 6 _ rfl
    have b7 := boxk_cell h6 7 _ rfl
    have b8 := boxk_cell h6 8 _ rfl
    have b9 := boxk_cell h6 9 _ rfl
    have b10 := boxk_cell h6 10 _ rfl
    exact bodyPost_ret (v := .agg #[.string y.Op, .int .i64 y.L.K, .string y.L.S, .int .i64 y.L.V.K, .int .i64 y.L.V.N, .string y.L.V.S, .int .i64 y.R.K, .string y.R.S, .int .i64 y.R.V.K, .int .i64 y.R.V.N, .string y.R.V.S]) (by simp [results, Tryd.results91, go_sem, b0, b1, b2, b3, b4, b5, b6, b7, b8, b9, b10]) rfl ⟨y, rfl, D3.out.small, HY.out, D3.out.cur.keep gr (by simp; omega) (by intro k hk; cases hk; omega), grown_more D3.out.gr gr (by intro k hk; cases hk; omega)⟩
  · have hz3 := D3.out.gr.size
    have hq3 := D3.out.cur.lt
    go_wp2_with fail
    refine (l1Str_any B q w3.heap.size [⟨#[43]⟩, ⟨#[45]⟩] 2 _ (D3.out.alloc _).cur (by decide) (by decide) (by omega) (cells_strs w3 9 _)).mono ?_
    rintro e w4 ⟨s, rfl, hx, c4, g4⟩
    have HS : Hid (s.size ≤ 1048576) := by
      unfold Hid
      simp only [List.mem_cons, List.not_mem_nil, or_false] at hx
      rcases hx with rfl | rfl <;> decide
    have D4 := hide ((D3.out.alloc (.cells (([⟨#[43]⟩, ⟨#[45]⟩] : List ByteArray).map Value.string).toArray 9)).draws hqX hRq c4 g4)
    clear hx c4 g4 D3
    have r0 := boxk_cell D4.out.box 0 _ rfl
    have f0 := boxk_frozen D4.out.box 0
    have P := boxx_set0 D4.out.box (.string s)
    have D5 := hide (D4.out.put (z := ⟨s, l, A5.zero⟩) hqX hRX hBX z1 P.2 P.1 ⟨HS.out, hl, emp_small, emp_small⟩)
    clear P
    go_wp2_with fail
    clear r0 f0 D4
    generalize (w4.setCell ⟨w1.heap.size, 0, none⟩ (.string s)) = w5 at D5
    refine (l7Arg_ok B q _ D5.out.cur).mono ?_
    rintro e w6 ⟨t, rfl, ht, -, c6, g6⟩
    have D6 := hide (D5.out.draws hqX hRq c6 g6)
    clear c6 g6 D5
    have r6 := boxk_cell D6.out.box 6 _ rfl
    have f6 := boxk_frozen D6.out.box 6
    have r7 := boxk_cell D6.out.box 7 _ rfl
    have f7 := boxk_frozen D6.out.box 7
    have r8 := boxk_cell D6.out.box 8 _ rfl
    have f8 := boxk_frozen D6.out.box 8
    have r9 := boxk_cell D6.out.box 9 _ rfl
    have f9 := boxk_frozen D6.out.box 9
    have r10 := boxk_cell D6.out.box 10 _ rfl
    have f10 := boxk_frozen D6.out.box 10
    have P := box11_setR D6.out.box (.int .i64 t.K) (.string t.S) (.int .i64 t.V.K) (.int .i64 t.V.N) (.string t.V.S)
    have D7 := hide (D6.out.put (z := ⟨s, l, t⟩) hqX hRX hBX z1 P.2 P.1 ⟨HS.out, hl, ht⟩)
    clear P
    go_upto_region 5 with fail
    clear r6 f6 r7 f7 r8 f8 r9 f9 r10 f10 D6
    generalize (((((w6.setCell ⟨w1.heap.size, 6, none⟩ (.int .i64 t.K)).setCell ⟨w1.heap.size, 7, none⟩ (.string t.S)).setCell ⟨w1.heap.size, 8, none⟩ (.int .i64 t.V.K)).setCell ⟨w1.heap.size, 9, none⟩ (.int .i64 t.V.N)).setCell ⟨w1.heap.size, 10, none⟩ (.string t.V.S)) = w7 at D7
    obtain ⟨y, hy⟩ : ∃ y : X11, y = ⟨s, l, t⟩ := ⟨_, rfl⟩
    have HY : Hid (y.L.K = 2 → y.L.V.ok = true) := by unfold Hid; rw [hy]; exact HLo.out
    rw [← hy] at D7
    clear hy
    have l5 := (Array.getElem?_eq_some_iff.1 D7.out.res).1
    have a0 := boxk_cell D7.out.box 0 _ rfl
    have a1 := boxk_cell D7.out.box 1 _ rfl
    have a2 := boxk_cell D7.out.box 2 _ rfl
    have a3 := boxk_cell D7.out.box 3 _ rfl
    have a4 := boxk_cell D7.out.box 4 _ rfl
    have a5 := boxk_cell D7.out.box 5 _ rfl
    have a6 := boxk_cell D7.out.box 6 _ rfl
    have a7 := boxk_cell D7.out.box 7 _ rfl
    have a8 := boxk_cell D7.out.box 8 _ rfl
    have a9 := boxk_cell D7.out.box 9 _ rfl
    have a10 := boxk_cell D7.out.box 10 _ rfl
    have r0 := boxk_cell D7.out.res 0 _ rfl
    have f0 := boxk_frozen D7.out.res 0
    have r1 := boxk_cell D7.out.res 1 _ rfl
    have f1 := boxk_frozen D7.out.res 1
    have r2 := boxk_cell D7.out.res 2 _ rfl
    have f2 := boxk_frozen D7.out.res 2
    have r3 := boxk_cell D7.out.res 3 _ rfl
    have f3 := boxk_frozen D7.out.res 3
    have r4 := boxk_cell D7.out.res 4 _ rfl
    have f4 := boxk_frozen D7.out.res 4
    have r5 := boxk_cell D7.out.res 5 _ rfl
    have f5 := boxk_frozen D7.out.res 5
    have r6 := boxk_cell D7.out.res 6 _ rfl
    have f6 := boxk_frozen D7.out.res 6
    have r7 := boxk_cell D7.out.res 7 _ rfl
    have f7 := boxk_frozen D7.out.res 7
    have r8 := boxk_cell D7.out.res 8 _ rfl
    have f8 := boxk_frozen D7.out.res 8
    have r9 := boxk_cell D7.out.res 9 _ rfl
    have f9 := boxk_frozen D7.out.res 9
    have r10 := boxk_cell D7.out.res 10 _ rfl
    have f10 := boxk_frozen D7.out.res 10
    go_wp2
    refine box11_post D7.out.res (fun w6 h6 gr => ?_)
    clear a0 r0 f0 a1 r1 f1 a2 r2 f2 a3 r3 f3 a4 r4 f4 a5 r5 f5 a6 r6 f6 a7 r7 f7 a8 r8 f8 a9 r9 f9 a10 r10 f10
    have b0 := boxk_cell h6 0 _ rfl
    have b1 := boxk_cell h6 1 _ rfl
    have b2 := boxk_cell h6 2 _ rfl
    have b3 := boxk_cell h6 3 _ rfl
    have b4 := boxk_cell h6 4 _ rfl
    have b5 := boxk_cell h6 5 _ rfl
    have b6 := boxk_cell h6 6 _ rfl
    have b7 := boxk_cell h6 7 _ rfl
    have b8 := boxk_cell h6 8 _ rfl
    have b9 := boxk_cell h6 9 _ rfl
    have b10 := boxk_cell h6 10 _ rfl
    exact bodyPost_ret (v := .agg #[.string y.Op, .int .i64 y.L.K, .string y.L.S, .int .i64 y.L.V.K, .int .i64 y.L.V.N, .string y.L.V.S, .int .i64 y.R.K, .string y.R.S, .int .i64 y.R.V.K, .int .i64 y.R.V.N, .string y.R.V.S]) (by simp [results, Tryd.results91, go_sem, b0, b1, b2, b3, b4, b5, b6, b7, b8, b9, b10]) rfl ⟨y, rfl, D7.out.small, HY.out, D7.out.cur.keep gr (by simp; omega) (by intro k hk; cases hk; omega), grown_more D7.out.gr gr (by intro k hk; cases hk; omega)⟩

/-- some term was drawn -/
def DrawnXT (w : World) (e : Ending) (w' : World) : Prop := ∃ x : X11, e = .returned (.agg #[.string x.Op, .int .i64 x.L.K, .string x.L.S, .int .i64 x.L.V.K, .int .i64 x.L.V.N, .string x.L.V.S, .int .i64 x.R.K, .string x.R.S, .int .i64 x.R.V.K, .int .i64 x.R.V.N, .string x.R.V.S]) ∧ x.small ∧ Below w.heap.size w w'

set_option maxRecDepth 100000 in
set_option maxHeartbeats 6400000 in
theorem drawExprOk_any (a : Option Addr) (cap : Nat) (code : List UInt8) (w : World) (hr : Rd w a code) (hn : code.length ≤ 1048576) :
    Calls Tryd.prog 47 #[.slice a code.length cap] w (DrawnXT w) := by
  go_enter Tryd.func47, Tryd.ntmps47
  go_wp2_with fail
  have b1 := below_al w (.cells #[.string ⟨#[]⟩, .int .i64 0, .string ⟨#[]⟩, .int .i64 0, .int .i64 0, .string ⟨#[]⟩, .int .i64 0, .string ⟨#[]⟩, .int .i64 0, .int .i64 0, .string ⟨#[]⟩] 41)
  have r1 := boxk_new w #[.string ⟨#[]⟩, .int .i64 0, .string ⟨#[]⟩, .int .i64 0, .int .i64 0, .string ⟨#[]⟩, .int .i64 0, .string ⟨#[]⟩, .int .i64 0, .int .i64 0, .string ⟨#[]⟩] 41
  have z1 : (w.alloc (.cells #[.string ⟨#[]⟩, .int .i64 0, .string ⟨#[]⟩, .int .i64 0, .int .i64 0, .string ⟨#[]⟩, .int .i64 0, .string ⟨#[]⟩, .int .i64 0, .int .i64 0, .string ⟨#[]⟩] 41)).heap.size = w.heap.size + 1 := by simp
  have gg := World.grownBy_alloc w (.cells #[.string ⟨#[]⟩, .int .i64 0, .string ⟨#[]⟩, .int .i64 0, .int .i64 0, .string ⟨#[]⟩, .int .i64 0, .string ⟨#[]⟩, .int .i64 0, .int .i64 0, .string ⟨#[]⟩] 41) (some (w.heap.size + 1))
  generalize w.alloc (.cells #[.string ⟨#[]⟩, .int .i64 0, .string ⟨#[]⟩, .int .i64 0, .int .i64 0, .string ⟨#[]⟩, .int .i64 0, .string ⟨#[]⟩, .int .i64 0, .int .i64 0, .string ⟨#[]⟩] 41) = w0 at b1 r1 z1 gg ⊢
  refine (l1New_any w.heap.size a cap code w0 (hr.toB.below b1) hn b1.size).mono ?_
  rintro e w1 ⟨rfl, c1, g1⟩
  rw [z1] at c1 ⊢
  have q1 := c1.lt
  have R1 := hide (show w1.heap[w.heap.size]? = _ from (g1.block _ (by omega) (by simp)).trans r1)
  have G1 : w.grownBy w1 (some (w.heap.size + 1)) := grown_trans gg ⟨g1.os, g1.tape, g1.output, g1.size, fun i hi hne => g1.block i hi (by simp)⟩
  clear r1 b1 g1 z1 gg
  go_wp2_with fail
  refine (l8Expr_any w.heap.size (w.heap.size + 1) w1 c1).mono ?_
  rintro e w2 ⟨x, rfl, hx, -, c2, g2⟩
  have HR := hide (box_grown R1.out g2 (by omega))
  have G2 : w.grownBy w2 (some (w.heap.size + 1)) := grown_trans G1 g2
  have z1 := G2.size
  have s2 := g2.size
  have hqX : w2.heap.size ≠ w.heap.size + 1 := by omega
  have hRX : w2.heap.size ≠ w.heap.size := by omega
  have hRq : w.heap.size ≠ w.heap.size + 1 := by omega
  have hBX : w.heap.size ≤ w2.heap.size := by omega
  have D0 : ExAt w w.heap.size (w.heap.size + 1) w.heap.size w2.heap.size (w2.alloc (.cells #[.string x.Op, .int .i64 x.L.K, .string x.L.S, .int .i64 x.L.V.K, .int .i64 x.L.V.N, .string x.L.V.S, .int .i64 x.R.K, .string x.R.S, .int .i64 x.R.V.K, .int .i64 x.R.V.N, .string x.R.V.S] 41)) x :=
    ⟨c2.keep (World.grownBy_alloc w2 _ none) (by simp) (by simp), boxk_new w2 _ _, box_old HR.out (by omega) _, grown_trans G2 (grown_alloc w2 _ _), hx⟩
  clear g2 R1 G1 HR G2 c1 c2 hx
  go_wp2_with fail
  generalize w2.alloc (.cells #[.string x.Op, .int .i64 x.L.K, .string x.L.S, .int .i64 x.L.V.K, .int .i64 x.L.V.N, .string x.L.V.S, .int .i64 x.R.K, .string x.R.S, .int .i64 x.R.V.K, .int .i64 x.R.V.N, .string x.R.V.S] 41) = w2b at D0
  refine (l1Below_any w.heap.size (w.heap.size + 1) 6 _ D0.cur (by omega) (by omega)).mono ?_
  rintro e w3 ⟨n, rfl, n0, n1, c3, g3⟩
  have D3 := hide (D0.draws hqX hRq c3 g3)
  clear D0 c3 g3
  by_cases h0 : n = 0
  case' pos =>
    subst h0
    have hz3 := D3.out.gr.size
    have hq3 := D3.out.cur.lt
    go_wp2_with fail
    refine (l1Str_any w.heap.size (w.heap.size + 1) w3.heap.size [⟨#[]⟩, ⟨#[42]⟩, ⟨#[45]⟩] 3 _ (D3.out.alloc _).cur (by decide) (by decide) (by omega) (cells_strs w3 9 _)).mono ?_
    rintro e w4 ⟨s, rfl, hx, c4, g4⟩
    have HS : Hid (s.size ≤ 1048576) := by
      unfold Hid
      simp only [List.mem_cons, List.not_mem_nil, or_false] at hx
      rcases hx with rfl | rfl | rfl <;> decide
    have D4 := hide ((D3.out.alloc (.cells (([⟨#[]⟩, ⟨#[42]⟩, ⟨#[45]⟩] : List ByteArray).map Value.string).toArray 9)).draws hqX hRq c4 g4)
    clear hx c4 g4 D3
    have r0 := boxk_cell D4.out.box 0 _ rfl
    have f0 := boxk_frozen D4.out.box 0
    have P := boxx_set0 D4.out.box (.string s)
    have D5 := hide (D4.out.put (z := ⟨s, x.L, x.R⟩) hqX hRX hBX z1 P.2 P.1 ⟨HS.out, D4.out.small.2⟩)
    clear P
    go_upto_region 10 with fail
    clear r0 f0 D4
    generalize (w4.setCell ⟨w2.heap.size, 0, none⟩ (.string s)) = w5 at D5
    generalize (⟨s, x.L, x.R⟩ : X11) = y at D5
  case' neg =>
    have k0 : (n == 0) = false := by simpa using h0
    by_cases h1 : n = 1
    case' pos =>
      subst h1
      clear h0 k0
      go_wp2_with fail
      refine (l6Arg_any w.heap.size (w.heap.size + 1) _ D3.out.cur).mono ?_
      rintro e w4 ⟨t, rfl, ht, c4, g4⟩
      have D4 := hide (D3.out.draws hqX hRq c4 g4)
      clear c4 g4 D3
      have r1 := boxk_cell D4.out.box 1 _ rfl
      have f1 := boxk_frozen D4.out.box 1
      have r2 := boxk_cell D4.out.box 2 _ rfl
      have f2 := boxk_frozen D4.out.box 2
      have r3 := boxk_cell D4.out.box 3 _ rfl
      have f3 := boxk_frozen D4.out.box 3
      have r4 := boxk_cell D4.out.box 4 _ rfl
      have f4 := boxk_frozen D4.out.box 4
      have r5 := boxk_cell D4.out.box 5 _ rfl
      have f5 := boxk_frozen D4.out.box 5
      have P := box11_setL D4.out.box (.int .i64 t.K) (.string t.S) (.int .i64 t.V.K) (.int .i64 t.V.N) (.string t.V.S)
      have D5 := hide (D4.out.put (z := ⟨x.Op, t, x.R⟩) hqX hRX hBX z1 P.2 P.1 ⟨D4.out.small.1, ht, D4.out.small.2.2⟩)
      clear P
      go_upto_region 10 with fail
      clear r1 f1 r2 f2 r3 f3 r4 f4 r5 f5 D4
      generalize (((((w4.setCell ⟨w2.heap.size, 1, none⟩ (.int .i64 t.K)).setCell ⟨w2.heap.size, 2, none⟩ (.string t.S)).setCell ⟨w2.heap.size, 3, none⟩ (.int .i64 t.V.K)).setCell ⟨w2.heap.size, 4, none⟩ (.int .i64 t.V.N)).setCell ⟨w2.heap.size, 5, none⟩ (.string t.V.S)) = w5 at D5
      generalize (⟨x.Op, t, x.R⟩ : X11) = y at D5
    case' neg =>
      have k1 : (n == 1) = false := by simpa using h1
      by_cases h2 : n = 2
      case' pos =>
        subst h2
        clear h0 k0 h1 k1
        go_wp2_with fail
        refine (l6Arg_any w.heap.size (w.heap.size + 1) _ D3.out.cur).mono ?_
        rintro e w4 ⟨t, rfl, ht, c4, g4⟩
        have D4 := hide (D3.out.draws hqX hRq c4 g4)
        clear c4 g4 D3
        have r6 := boxk_cell D4.out.box 6 _ rfl
        have f6 := boxk_frozen D4.out.box 6
        have r7 := boxk_cell D4.out.box 7 _ rfl
        have f7 := boxk_frozen D4.out.box 7
        have r8 := boxk_cell D4.out.box 8 _ rfl
        have f8 := boxk_frozen D4.out.box 8
        have r9 := boxk_cell D4.out.box 9 _ rfl
        have f9 := boxk_frozen D4.out.box 9
        have r10 := boxk_cell D4.out.box 10 _ rfl
        have f10 := boxk_frozen D4.out.box 10
        have P := box11_setR D4.out.box (.int .i64 t.K) (.string t.S) (.int .i64 t.V.K) (.int .i64 t.V.N) (.string t.V.S)
        have D5 := hide (D4.out.put (z := ⟨x.Op, x.L, t⟩) hqX hRX hBX z1 P.2 P.1 ⟨D4.out.small.1, D4.out.small.2.1, ht⟩)
        clear P
        go_upto_region 10 with fail
        clear r6 f6 r7 f7 r8 f8 r9 f9 r10 f10 D4
        generalize (((((w4.setCell ⟨w2.heap.size, 6, none⟩ (.int .i64 t.K)).setCell ⟨w2.heap.size, 7, none⟩ (.string t.S)).setCell ⟨w2.heap.size, 8, none⟩ (.int .i64 t.V.K)).setCell ⟨w2.heap.size, 9, none⟩ (.int .i64 t.V.N)).setCell ⟨w2.heap.size, 10, none⟩ (.string t.V.S)) = w5 at D5
        generalize (⟨x.Op, x.L, t⟩ : X11) = y at D5
      case' neg =>
        have k2 : (n == 2) = false := by simpa using h2
        go_upto_region 10 with fail
        clear h0 h1 h2 k0 k1 k2
        obtain ⟨y, hy⟩ : ∃ y, y = x := ⟨_, rfl⟩
        obtain ⟨w5, hw5⟩ : ∃ w5, w5 = w3 := ⟨_, rfl⟩
        rw [← hw5, ← hy] at D3
        rw [← hw5]
        have D5 := D3
        clear D3 hw5 hy
  all_goals
    have hz5 := D5.out.gr
    have l5 := (Array.getElem?_eq_some_iff.1 D5.out.res).1
    have a0 := boxk_cell D5.out.box 0 _ rfl
    have a1 := boxk_cell D5.out.box 1 _ rfl
    have a2 := boxk_cell D5.out.box 2 _ rfl
    have a3 := boxk_cell D5.out.box 3 _ rfl
    have a4 := boxk_cell D5.out.box 4 _ rfl
    have a5 := boxk_cell D5.out.box 5 _ rfl
    have a6 := boxk_cell D5.out.box 6 _ rfl
    have a7 := boxk_cell D5.out.box 7 _ rfl
    have a8 := boxk_cell D5.out.box 8 _ rfl
    have a9 := boxk_cell D5.out.box 9 _ rfl
    have a10 := boxk_cell D5.out.box 10 _ rfl
    have r0 := boxk_cell D5.out.res 0 _ rfl
    have f0 := boxk_frozen D5.out.res 0
    have r1 := boxk_cell D5.out.res 1 _ rfl
    have f1 := boxk_frozen D5.out.res 1
    have r2 := boxk_cell D5.out.res 2 _ rfl
    have f2 := boxk_frozen D5.out.res 2
    have r3 := boxk_cell D5.out.res 3 _ rfl
    have f3 := boxk_frozen D5.out.res 3
    have r4 := boxk_cell D5.out.res 4 _ rfl
    have f4 := boxk_frozen D5.out.res 4
    have r5 := boxk_cell D5.out.res 5 _ rfl
    have f5 := boxk_frozen D5.out.res 5
    have r6 := boxk_cell D5.out.res 6 _ rfl
    have f6 := boxk_frozen D5.out.res 6
    have r7 := boxk_cell D5.out.res 7 _ rfl
    have f7 := boxk_frozen D5.out.res 7
    have r8 := boxk_cell D5.out.res 8 _ rfl
    have f8 := boxk_frozen D5.out.res 8
    have r9 := boxk_cell D5.out.res 9 _ rfl
    have f9 := boxk_frozen D5.out.res 9
    have r10 := boxk_cell D5.out.res 10 _ rfl
    have f10 := boxk_frozen D5.out.res 10
    go_wp2
    refine box11_post D5.out.res (fun w6 h6 gr => ?_)
    clear a0 r0 f0 a1 r1 f1 a2 r2 f2 a3 r3 f3 a4 r4 f4 a5 r5 f5 a6 r6 f6 a7 r7 f7 a8 r8 f8 a9 r9 f9 a10 r10 f10
    have b0 := boxk_cell h6 0 _ rfl
    have b1 := boxk_cell h6 1 _ rfl
    have b2 := boxk_cell h6 2 _ rfl
    have b3 := boxk_cell h6 3 _ rfl
    have b4 := boxk_cell h6 4 _ rfl
    have b5 := boxk_cell h6 5 _ rfl
    have b6 := boxk_cell h6 6 _ rfl
    have b7 := boxk_cell h6 7 _ rfl
    have b8 := boxk_cell h6 8 _ rfl
    have b9 := boxk_cell h6 9 _ rfl
    have b10 := boxk_cell h6 10 _ rfl
    exact bodyPost_ret (v := .agg #[.string y.Op, .int .i64 y.L.K, .string y.L.S, .int .i64 y.L.V.K, .int .i64 y.L.V.N, .string y.L.V.S, .int .i64 y.R.K, .string y.R.S, .int .i64 y.R.V.K, .int .i64 y.R.V.N, .string y.R.V.S]) (by simp [results, Tryd.results47, go_sem, b0, b1, b2, b3, b4, b5, b6, b7, b8, b9, b10]) rfl ⟨y, rfl, D5.out.small, ((Below.refl _ _).grown D5.out.gr (Nat.le_refl _) (fun k hk => by cases hk; omega)).grown gr D5.out.gr.size (fun k hk => by cases hk; exact Nat.le_refl _)⟩

end Go.Proofs.YtaflokfgbmlmaacDoor
/-
  The contracts of the laws' own helpers on rows of Exprs: to copies, sz counts off, eq finds a row the same as itself.
-/
namespace Go.Proofs.YtaflokfgbmlmaacDoor
open Go.RowKit
set_option linter.unusedVariables false

set_option maxRecDepth 100000 in
set_option maxHeartbeats 3200000 in
theorem toExprS_at (a : Option Addr) (cap : Nat) (L : List X11) (w : World) (hr : RdExpr w a L) (hn : L.length ≤ 1048576) :
    Calls Tryd.prog 41 #[.slice a L.length cap] w fun e w' =>
      e = .returned (.slice (some ⟨w.heap.size, 0, none⟩) L.length L.length) ∧ w'.ownsRow w.heap.size 41 11 (.slice (some ⟨w.heap.size, 0, none⟩) L.length L.length) L.length (rowOf X11.cs L) ∧ Below w.heap.size w w' := by
  obtain ⟨i0, hi, hz0, hz1, hz2⟩ := info_parts Tryd.info41
  obtain ⟨n, hN⟩ : ∃ n, n = L.length := ⟨_, rfl⟩
  rw [← hN] at hn ⊢
  have HN := hide hN
  clear hN
  have hmade := rowOf_made (f := X11.cs) (x := X11.zero) (cs := #[.string ⟨#[]⟩, .int .i64 0, .string ⟨#[]⟩, .int .i64 0, .int .i64 0, .string ⟨#[]⟩, .int .i64 0, .string ⟨#[]⟩, .int .i64 0, .int .i64 0, .string ⟨#[]⟩]) rfl (by decide) n
  go_enter Tryd.func41, Tryd.ntmps41
  go_wp2_with (at_make; refine wpList_make_full _ rfl _ _ 27 rfl w.heap.size 41 i0 (.agg #[.string ⟨#[]⟩, .int .i64 0, .string ⟨#[]⟩, .int .i64 0, .int .i64 0, .string ⟨#[]⟩, .int .i64 0, .string ⟨#[]⟩, .int .i64 0, .int .i64 0, .string ⟨#[]⟩]) 11 Tryd.underlying27 hi hz0 hz1 _ _ _ _ n rfl rfl (by omega) (by omega) ?b2 ?b3 (Nat.le_refl _) ?_)
  case b2 => rw [hz2]; omega
  case b3 => unfold maxLen; omega
  intro w0 hown0 hgrow0
  have hown0' : w0.ownsRow w.heap.size 41 11 (.slice (some ⟨w.heap.size, 0, none⟩) n n) n (rowOf X11.cs (List.replicate n X11.zero)) := by rw [← hmade]; exact hown0
  clear hown0 hmade
  go_wp2
  go_loopw [4] (fun i wr => ∃ k : Nat, k ≤ n ∧ i = .int .i64 k ∧ wr.ownsRow w.heap.size 41 11 (.slice (some ⟨w.heap.size, 0, none⟩) n n) n (rowOf X11.cs (partK L X11.zero k)) ∧ Below w.heap.size w wr)
    (fun i _ => n - (intOf i).toNat)
  case atStart =>
    refine ⟨0, Nat.zero_le _, rfl, ?_, (Below.refl _ _).grown hgrow0 (Nat.le_refl _) (fun k h => by cases h)⟩
    rw [partK_zero, ← HN.out]
    exact hown0'
  case round =>
    obtain ⟨k, hk, rfl, hown, hbel⟩ := hrel
    by_cases hlt : k < n
    · obtain ⟨b, off, hab, hbw, hc⟩ := RdExpr.cells hr (by rw [← HN.out]; omega)
      obtain ⟨c0, c1, c2, c3, c4, c5, c6, c7, c8, c9, c10⟩ := hc k (by rw [← HN.out]; exact hlt)
      clear hc
      subst hab
      rw [← hbel.cell (p := ⟨b, off + k * 11, none⟩) hbw] at c0
      rw [← hbel.cell (p := ⟨b, off + k * 11 + 1, none⟩) hbw] at c1
      rw [← hbel.cell (p := ⟨b, off + k * 11 + 2, none⟩) hbw] at c2
      rw [← hbel.cell (p := ⟨b, off + k * 11 + 3, none⟩) hbw] at c3
      rw [← hbel.cell (p := ⟨b, off + k * 11 + 4, none⟩) hbw] at c4
      rw [← hbel.cell (p := ⟨b, off + k * 11 + 5, none⟩) hbw] at c5
      rw [← hbel.cell (p := ⟨b, off + k * 11 + 6, none⟩) hbw] at c6
      rw [← hbel.cell (p := ⟨b, off + k * 11 + 7, none⟩) hbw] at c7
      rw [← hbel.cell (p := ⟨b, off + k * 11 + 8, none⟩) hbw] at c8
      rw [← hbel.cell (p := ⟨b, off + k * 11 + 9, none⟩) hbw] at c9
      rw [← hbel.cell (p := ⟨b, off + k * 11 + 10, none⟩) hbw] at c10
      go_wp2_with fail
      refine (toExpr_any _ _ _ _ _ _ _ _ _ _ _ _).mono ?_
      rintro e w2 ⟨rfl, hb2⟩
      have hown2 : w2.ownsRow w.heap.size 41 11 (.slice (some ⟨w.heap.size, 0, none⟩) n n) n (rowOf X11.cs (partK L X11.zero k)) := ownsRow_below' hown hb2
      have hbel2 : Below w.heap.size w w2 := hbel.trans (hb2.mono hbel.size)
      have hlen : (rowOf X11.cs (partK L X11.zero k)).length = n * 11 := by rw [rowOf_length X11.len, partK_length (by rw [← HN.out]; omega), ← HN.out]
      have hmem : ∀ j, j < 11 → ∃ u, w2.cell? ⟨w.heap.size, k * 11 + j, none⟩ = some u := fun j hj => by
        rw [hown2.cellAt (k * 11 + j) (by omega), List.getElem?_eq_getElem (by omega)]
        exact ⟨_, rfl⟩
      obtain ⟨u0, m0⟩ := hmem 0 (by omega)
      obtain ⟨u1, m1⟩ := hmem 1 (by omega)
      obtain ⟨u2, m2⟩ := hmem 2 (by omega)
      obtain ⟨u3, m3⟩ := hmem 3 (by omega)
      obtain ⟨u4, m4⟩ := hmem 4 (by omega)
      obtain ⟨u5, m5⟩ := hmem 5 (by omega)
      obtain ⟨u6, m6⟩ := hmem 6 (by omega)
      obtain ⟨u7, m7⟩ := hmem 7 (by omega)
      obtain ⟨u8, m8⟩ := hmem 8 (by omega)
      obtain ⟨u9, m9⟩ := hmem 9 (by omega)
      obtain ⟨u10, m10⟩ := hmem 10 (by omega)
      rw [Nat.add_zero] at m0
      have f0 := hown2.frozenAt (k * 11)
      have f1 := hown2.frozenAt (k * 11 + 1)
      have f2 := hown2.frozenAt (k * 11 + 2)
      have f3 := hown2.frozenAt (k * 11 + 3)
      have f4 := hown2.frozenAt (k * 11 + 4)
      have f5 := hown2.frozenAt (k * 11 + 5)
      have f6 := hown2.frozenAt (k * 11 + 6)
      have f7 := hown2.frozenAt (k * 11 + 7)
      have f8 := hown2.frozenAt (k * 11 + 8)
      have f9 := hown2.frozenAt (k * 11 + 9)
      have f10 := hown2.frozenAt (k * 11 + 10)
      have HO := hide (((((((((((hown2.stored (k * 11) (.string (eAt L k).Op)).1.stored (k * 11 + 1) (.int .i64 (eAt L k).L.K)).1.stored (k * 11 + 2) (.string (eAt L k).L.S)).1.stored (k * 11 + 3) (.int .i64 (eAt L k).L.V.K)).1.stored (k * 11 + 4) (.int .i64 (eAt L k).L.V.N)).1.stored (k * 11 + 5) (.string (eAt L k).L.V.S)).1.stored (k * 11 + 6) (.int .i64 (eAt L k).R.K)).1.stored (k * 11 + 7) (.string (eAt L k).R.S)).1.stored (k * 11 + 8) (.int .i64 (eAt L k).R.V.K)).1.stored (k * 11 + 9) (.int .i64 (eAt L k).R.V.N)).1.stored (k * 11 + 10) (.string (eAt L k).R.V.S)).1
      have HB : Hid (Below w.heap.size w (((((((((((w2.setCell ⟨w.heap.size, k * 11, none⟩ (.string (eAt L k).Op)).setCell ⟨w.heap.size, k * 11 + 1, none⟩ (.int .i64 (eAt L k).L.K)).setCell ⟨w.heap.size, k * 11 + 2, none⟩ (.string (eAt L k).L.S)).setCell ⟨w.heap.size, k * 11 + 3, none⟩ (.int .i64 (eAt L k).L.V.K)).setCell ⟨w.heap.size, k * 11 + 4, none⟩ (.int .i64 (eAt L k).L.V.N)).setCell ⟨w.heap.size, k * 11 + 5, none⟩ (.string (eAt L k).L.V.S)).setCell ⟨w.heap.size, k * 11 + 6, none⟩ (.int .i64 (eAt L k).R.K)).setCell ⟨w.heap.size, k * 11 + 7, none⟩ (.string (eAt L k).R.S)).setCell ⟨w.heap.size, k * 11 + 8, none⟩ (.int .i64 (eAt L k).R.V.K)).setCell ⟨w.heap.size, k * 11 + 9, none⟩ (.int .i64 (eAt L k).R.V.N)).setCell ⟨w.heap.size, k * 11 + 10, none⟩ (.string (eAt L k).R.V.S))) := (((((((((((hbel2.setCell (Nat.le_refl _) _).setCell (Nat.le_refl _) _).setCell (Nat.le_refl _) _).setCell (Nat.le_refl _) _).setCell (Nat.le_refl _) _).setCell (Nat.le_refl _) _).setCell (Nat.le_refl _) _).setCell (Nat.le_refl _) _).setCell (Nat.le_refl _) _).setCell (Nat.le_refl _) _).setCell (Nat.le_refl _) _)
      rw [rowOf_set_X11 (eAt L k) _ k (by rw [partK_length (by rw [← HN.out]; omega), ← HN.out]; exact hlt), partK_set (by rw [← HN.out]; exact hlt)] at HO
      clear hmem hlen c0 c1 c2 c3 c4 c5 c6 c7 c8 c9 c10 hown hbel hb2 hown2 hbel2
      go_wp2
      go_roundw
      case rel => exact ⟨k + 1, by omega, by go_num, HO.out, HB.out⟩
      case measure => simp [intOf]; omega
    · have HE : Hid (wr.ownsRow w.heap.size 41 11 (.slice (some ⟨w.heap.size, 0, none⟩) n n) n (rowOf X11.cs L)) := by
        have hkn : k = L.length := by rw [← HN.out]; omega
        rw [hkn, partK_end] at hown
        exact hown
      clear hown
      go_wp2
      go_ret
      exact ⟨rfl, HE.out, hbel⟩

set_option maxRecDepth 100000 in
set_option maxHeartbeats 1600000 in
theorem szExprS_any (a : Option Addr) (cap : Nat) (L : List X11) (left : Int) (w : World) (hr : RdExpr w a L) (hs : ∀ x ∈ L, x.fits) (hm : L.length ≤ maxLen) (h0 : 0 ≤ left) (h1 : left ≤ 1048576) :
    Calls Tryd.prog 38 #[.slice a L.length cap, .int .i64 left] w fun e w' =>
      (∃ r, e = .returned (.int .i64 r) ∧ (r = -1 ∨ (0 ≤ r ∧ r + (L.length : Int) ≤ left ∧ ∀ x ∈ L, x.small))) ∧ Below w.heap.size w w' := by
  unfold maxLen at hm
  obtain ⟨n, hN⟩ : ∃ n, n = L.length := ⟨_, rfl⟩
  rw [← hN] at hm ⊢
  have HN := hide hN
  have HS := hide hs
  clear hN hs
  by_cases h2 : left - (n : Int) < 0
  · go_enter Tryd.func38, Tryd.ntmps38
    go_wp2
    go_ret
    exact ⟨⟨-1, rfl, .inl rfl⟩, Below.refl _ _⟩
  · go_enter Tryd.func38, Tryd.ntmps38
    go_wp2
    go_loopw [1, 5] (fun l i wr => ∃ (k : Nat) (lf : Int), k ≤ n ∧ i = .int .i64 k ∧ l = .int .i64 lf ∧ 0 ≤ lf ∧ lf ≤ left - n ∧ (∀ j, j < k → (eAt L j).small) ∧ Below w.heap.size w wr) (fun _ i _ => n - (intOf i).toNat)
    case atStart => exact ⟨0, left - n, Nat.zero_le _, rfl, rfl, by omega, Int.le_refl _, fun j hj => absurd hj (Nat.not_lt_zero _), Below.refl _ _⟩
    case round =>
      obtain ⟨k, lf, hk, rfl, rfl, hlf, hle, hsm, hbel⟩ := hrel
      have HSm := hide hsm
      clear hsm
      by_cases hlt : k < n
      · obtain ⟨b, off, hab, hbw, hc⟩ := RdExpr.cells hr (by rw [← HN.out]; omega)
        obtain ⟨c0, c1, c2, c3, c4, c5, c6, c7, c8, c9, c10⟩ := hc k (by rw [← HN.out]; exact hlt)
        clear hc
        subst hab
        rw [← hbel.cell (p := ⟨b, off + k * 11, none⟩) hbw] at c0
        rw [← hbel.cell (p := ⟨b, off + k * 11 + 1, none⟩) hbw] at c1
        rw [← hbel.cell (p := ⟨b, off + k * 11 + 2, none⟩) hbw] at c2
        rw [← hbel.cell (p := ⟨b, off + k * 11 + 3, none⟩) hbw] at c3
        rw [← hbel.cell (p := ⟨b, off + k * 11 + 4, none⟩) hbw] at c4
        rw [← hbel.cell (p := ⟨b, off + k * 11 + 5, none⟩) hbw] at c5
        rw [← hbel.cell (p := ⟨b, off + k * 11 + 6, none⟩) hbw] at c6
        rw [← hbel.cell (p := ⟨b, off + k * 11 + 7, none⟩) hbw] at c7
        rw [← hbel.cell (p := ⟨b, off + k * 11 + 8, none⟩) hbw] at c8
        rw [← hbel.cell (p := ⟨b, off + k * 11 + 9, none⟩) hbw] at c9
        rw [← hbel.cell (p := ⟨b, off + k * 11 + 10, none⟩) hbw] at c10
        have hS : (eAt L k).fits := by rw [eAt_in (by rw [← HN.out]; exact hlt)]; exact HS.out _ (List.getElem_mem _)
        obtain ⟨hSo, ⟨hS0, hS1⟩, hS2, hS3⟩ := hS
        go_wp2_with fail
        refine (szExpr_any _ _ _ _ _ _ _ _ _ _ _ lf _ hSo hS0 hS1 hS2 hS3 hlf (by omega)).mono ?_
        rintro e w2 ⟨⟨r, rfl, hr2⟩, hb2⟩
        have hbel2 : Below w.heap.size w w2 := hbel.trans (hb2.mono hbel.size)
        clear hb2 c0 c1 c2 c3 c4 c5 c6 c7 c8 c9 c10 hbel
        rcases hr2 with rfl | ⟨h3, h4⟩
        · go_wp2
          go_ret
          exact ⟨⟨-1, rfl, .inl rfl⟩, hbel2⟩
        · have HSk : Hid ((eAt L k).small) := ⟨by omega, ⟨by omega, by omega⟩, by omega, by omega⟩
          have h5 : r ≤ lf := by omega
          clear h4
          go_wp2
          go_roundw
          case rel => exact ⟨k + 1, r, by omega, by go_num, rfl, h3, by omega, fun j hj => by
              by_cases hjk : j = k
              · rw [hjk]; exact HSk.out
              · exact HSm.out j (by omega), hbel2⟩
          case measure => simp [intOf]; omega
      · have HAll : Hid (∀ x ∈ L, x.small) := fun x hx => by
          obtain ⟨j, hj, rfl⟩ := List.getElem_of_mem hx
          rw [← eAt_in hj]
          exact HSm.out j (by rw [← HN.out] at hj; omega)
        go_wp2
        go_ret
        exact ⟨⟨lf, rfl, .inr ⟨hlf, by omega, HAll.out⟩⟩, hbel⟩

theorem toExprS_ex (a : Option Addr) (cap : Nat) (L : List X11) (w : World) (hr : RdExpr w a L) (hn : L.length ≤ 1048576) :
    Calls Tryd.prog 41 #[.slice a L.length cap] w fun e w' =>
      ∃ g, e = .returned (.slice (some ⟨g, 0, none⟩) L.length L.length) ∧ w.heap.size ≤ g ∧ OwnExpr w' g L.length L ∧ Below w.heap.size w w' :=
  (toExprS_at a cap L w hr hn).mono fun e w' h => ⟨w.heap.size, h.1, Nat.le_refl _, OwnK.of X11.len (by decide) h.2.1, h.2.2⟩

theorem keepExpr {w0 W w' : World} {B : Nat} {p0 p1 p2 p3 p4 p5 p6 p7 p8 p9 p10 p11 p12 p13 p14 p15 p16 p17 p18 p19 p20 p21 : Addr} {v0 v1 v2 v3 v4 v5 v6 v7 v8 v9 v10 v11 v12 v13 v14 v15 v16 v17 v18 v19 v20 v21 : Value} (hb : Below W.heap.size W w')
    (h : W.cell? p0 = some v0 ∧ W.cell? p1 = some v1 ∧ W.cell? p2 = some v2 ∧ W.cell? p3 = some v3 ∧ W.cell? p4 = some v4 ∧ W.cell? p5 = some v5 ∧ W.cell? p6 = some v6 ∧ W.cell? p7 = some v7 ∧ W.cell? p8 = some v8 ∧ W.cell? p9 = some v9 ∧ W.cell? p10 = some v10 ∧ W.cell? p11 = some v11 ∧ W.cell? p12 = some v12 ∧ W.cell? p13 = some v13 ∧ W.cell? p14 = some v14 ∧ W.cell? p15 = some v15 ∧ W.cell? p16 = some v16 ∧ W.cell? p17 = some v17 ∧ W.cell? p18 = some v18 ∧ W.cell? p19 = some v19 ∧ W.cell? p20 = some v20 ∧ W.cell? p21 = some v21 ∧ Below B w0 W ∧ B ≤ W.heap.size) :
    w'.cell? p0 = some v0 ∧ w'.cell? p1 = some v1 ∧ w'.cell? p2 = some v2 ∧ w'.cell? p3 = some v3 ∧ w'.cell? p4 = some v4 ∧ w'.cell? p5 = some v5 ∧ w'.cell? p6 = some v6 ∧ w'.cell? p7 = some v7 ∧ w'.cell? p8 = some v8 ∧ w'.cell? p9 = some v9 ∧ w'.cell? p10 = some v10 ∧ w'.cell? p11 = some v11 ∧ w'.cell? p12 = some v12 ∧ w'.cell? p13 = some v13 ∧ w'.cell? p14 = some v14 ∧ w'.cell? p15 = some v15 ∧ w'.cell? p16 = some v16 ∧ w'.cell? p17 = some v17 ∧ w'.cell? p18 = some v18 ∧ w'.cell? p19 = some v19 ∧ w'.cell? p20 = some v20 ∧ w'.cell? p21 = some v21 ∧ Below B w0 w' ∧ B ≤ w'.heap.size := by
  obtain ⟨q0, q1, q2, q3, q4, q5, q6, q7, q8, q9, q10, q11, q12, q13, q14, q15, q16, q17, q18, q19, q20, q21, h6, h7⟩ := h
  have k : ∀ {a : Addr} {v : Value}, W.cell? a = some v → w'.cell? a = some v := fun {a v} h => by rw [hb.cell (World.block_lt_of_cell? W _ h)]; exact h
  exact ⟨k q0, k q1, k q2, k q3, k q4, k q5, k q6, k q7, k q8, k q9, k q10, k q11, k q12, k q13, k q14, k q15, k q16, k q17, k q18, k q19, k q20, k q21, h6.trans (hb.mono h7), Nat.le_trans h7 hb.size⟩
set_option maxRecDepth 100000 in
set_option maxHeartbeats 3200000 in
theorem eqExprS_same (a b : Option Addr) (ca cb : Nat) (L : List X11) (w : World) (hr : RdExpr w a L) (hq : RdExpr w b L) (hm : L.length ≤ 2097152) :
    Calls Tryd.prog 44 #[.slice a L.length ca, .slice b L.length cb] w fun e w' =>
      e = .returned (.bool true) ∧ Below w.heap.size w w' := by
  obtain ⟨n, hN⟩ : ∃ n, n = L.length := ⟨_, rfl⟩
  rw [← hN] at hm ⊢
  have HN := hide hN
  clear hN
  have hnn : ((n : Int) != (n : Int)) = false := by simp
  go_enter Tryd.func44, Tryd.ntmps44
  go_wp2
  go_loopw [5] (fun i wr => ∃ (k : Nat), k ≤ n ∧ i = .int .i64 k ∧ Below w.heap.size w wr) (fun i _ => n - (intOf i).toNat)
  case atStart => exact ⟨0, Nat.zero_le _, rfl, Below.refl _ _⟩
  case round =>
    obtain ⟨k, hk, rfl, hbel⟩ := hrel
    by_cases hlt : k < n
    · obtain ⟨b1, o1, e1, hbw1, hc1⟩ := RdExpr.cells hr (by rw [← HN.out]; omega)
      obtain ⟨b2, o2, e2, hbw2, hc2⟩ := RdExpr.cells hq (by rw [← HN.out]; omega)
      obtain ⟨c0, c1, c2, c3, c4, c5, c6, c7, c8, c9, c10⟩ := hc1 k (by rw [← HN.out]; exact hlt)
      obtain ⟨d0, d1, d2, d3, d4, d5, d6, d7, d8, d9, d10⟩ := hc2 k (by rw [← HN.out]; exact hlt)
      clear hc1 hc2
      subst e1 e2
      rw [← hbel.cell (p := ⟨b1, o1 + k * 11, none⟩) hbw1] at c0
      rw [← hbel.cell (p := ⟨b2, o2 + k * 11, none⟩) hbw2] at d0
      rw [← hbel.cell (p := ⟨b1, o1 + k * 11 + 1, none⟩) hbw1] at c1
      rw [← hbel.cell (p := ⟨b2, o2 + k * 11 + 1, none⟩) hbw2] at d1
      rw [← hbel.cell (p := ⟨b1, o1 + k * 11 + 2, none⟩) hbw1] at c2
      rw [← hbel.cell (p := ⟨b2, o2 + k * 11 + 2, none⟩) hbw2] at d2
      rw [← hbel.cell (p := ⟨b1, o1 + k * 11 + 3, none⟩) hbw1] at c3
      rw [← hbel.cell (p := ⟨b2, o2 + k * 11 + 3, none⟩) hbw2] at d3
      rw [← hbel.cell (p := ⟨b1, o1 + k * 11 + 4, none⟩) hbw1] at c4
      rw [← hbel.cell (p := ⟨b2, o2 + k * 11 + 4, none⟩) hbw2] at d4
      rw [← hbel.cell (p := ⟨b1, o1 + k * 11 + 5, none⟩) hbw1] at c5
      rw [← hbel.cell (p := ⟨b2, o2 + k * 11 + 5, none⟩) hbw2] at d5
      rw [← hbel.cell (p := ⟨b1, o1 + k * 11 + 6, none⟩) hbw1] at c6
      rw [← hbel.cell (p := ⟨b2, o2 + k * 11 + 6, none⟩) hbw2] at d6
      rw [← hbel.cell (p := ⟨b1, o1 + k * 11 + 7, none⟩) hbw1] at c7
      rw [← hbel.cell (p := ⟨b2, o2 + k * 11 + 7, none⟩) hbw2] at d7
      rw [← hbel.cell (p := ⟨b1, o1 + k * 11 + 8, none⟩) hbw1] at c8
      rw [← hbel.cell (p := ⟨b2, o2 + k * 11 + 8, none⟩) hbw2] at d8
      rw [← hbel.cell (p := ⟨b1, o1 + k * 11 + 9, none⟩) hbw1] at c9
      rw [← hbel.cell (p := ⟨b2, o2 + k * 11 + 9, none⟩) hbw2] at d9
      rw [← hbel.cell (p := ⟨b1, o1 + k * 11 + 10, none⟩) hbw1] at c10
      rw [← hbel.cell (p := ⟨b2, o2 + k * 11 + 10, none⟩) hbw2] at d10
      generalize (eAt L k).Op = Op at c0 d0
      generalize (eAt L k).L.K = LK at c1 d1
      generalize (eAt L k).L.S = LS at c2 d2
      generalize (eAt L k).L.V.K = LVK at c3 d3
      generalize (eAt L k).L.V.N = LVN at c4 d4
      generalize (eAt L k).L.V.S = LVS at c5 d5
      generalize (eAt L k).R.K = RK at c6 d6
      generalize (eAt L k).R.S = RS at c7 d7
      generalize (eAt L k).R.V.K = RVK at c8 d8
      generalize (eAt L k).R.V.N = RVN at c9 d9
      generalize (eAt L k).R.V.S = RVS at c10 d10
      go_wp2_with fail
      go_region_held3 (fun W => W.cell? ⟨b1, o1 + k * 11, none⟩ = some (.string Op) ∧ W.cell? ⟨b1, o1 + k * 11 + 1, none⟩ = some (.int .i64 LK) ∧ W.cell? ⟨b1, o1 + k * 11 + 2, none⟩ = some (.string LS) ∧ W.cell? ⟨b1, o1 + k * 11 + 3, none⟩ = some (.int .i64 LVK) ∧ W.cell? ⟨b1, o1 + k * 11 + 4, none⟩ = some (.int .i64 LVN) ∧ W.cell? ⟨b1, o1 + k * 11 + 5, none⟩ = some (.string LVS) ∧ W.cell? ⟨b1, o1 + k * 11 + 6, none⟩ = some (.int .i64 RK) ∧ W.cell? ⟨b1, o1 + k * 11 + 7, none⟩ = some (.string RS) ∧ W.cell? ⟨b1, o1 + k * 11 + 8, none⟩ = some (.int .i64 RVK) ∧ W.cell? ⟨b1, o1 + k * 11 + 9, none⟩ = some (.int .i64 RVN) ∧ W.cell? ⟨b1, o1 + k * 11 + 10, none⟩ = some (.string RVS) ∧ W.cell? ⟨b2, o2 + k * 11, none⟩ = some (.string Op) ∧ W.cell? ⟨b2, o2 + k * 11 + 1, none⟩ = some (.int .i64 LK) ∧ W.cell? ⟨b2, o2 + k * 11 + 2, none⟩ = some (.string LS) ∧ W.cell? ⟨b2, o2 + k * 11 + 3, none⟩ = some (.int .i64 LVK) ∧ W.cell? ⟨b2, o2 + k * 11 + 4, none⟩ = some (.int .i64 LVN) ∧ W.cell? ⟨b2, o2 + k * 11 + 5, none⟩ = some (.string LVS) ∧ W.cell? ⟨b2, o2 + k * 11 + 6, none⟩ = some (.int .i64 RK) ∧ W.cell? ⟨b2, o2 + k * 11 + 7, none⟩ = some (.string RS) ∧ W.cell? ⟨b2, o2 + k * 11 + 8, none⟩ = some (.int .i64 RVK) ∧ W.cell? ⟨b2, o2 + k * 11 + 9, none⟩ = some (.int .i64 RVN) ∧ W.cell? ⟨b2, o2 + k * 11 + 10, none⟩ = some (.string RVS) ∧ Below w.heap.size w W ∧ w.heap.size ≤ W.heap.size) (first | exact ⟨c0, c1, c2, c3, c4, c5, c6, c7, c8, c9, c10, d0, d1, d2, d3, d4, d5, d6, d7, d8, d9, d10, hbel.drew, hbel.size⟩ | exact keepExpr (by assumption) (by assumption))
        (first | (go_at_call 88; refine (eqExpr_same _ _ _ _ _ _ _ _ _ _ _ _).mono ?_; rintro e w2 ⟨rfl, hb⟩))
      all_goals
        obtain ⟨-, -, -, -, -, -, -, -, -, -, -, -, -, -, -, -, -, -, -, -, -, -, hB2, -⟩ : w2.cell? ⟨b1, o1 + k * 11, none⟩ = some (.string Op) ∧ w2.cell? ⟨b1, o1 + k * 11 + 1, none⟩ = some (.int .i64 LK) ∧ w2.cell? ⟨b1, o1 + k * 11 + 2, none⟩ = some (.string LS) ∧ w2.cell? ⟨b1, o1 + k * 11 + 3, none⟩ = some (.int .i64 LVK) ∧ w2.cell? ⟨b1, o1 + k * 11 + 4, none⟩ = some (.int .i64 LVN) ∧ w2.cell? ⟨b1, o1 + k * 11 + 5, none⟩ = some (.string LVS) ∧ w2.cell? ⟨b1, o1 + k * 11 + 6, none⟩ = some (.int .i64 RK) ∧ w2.cell? ⟨b1, o1 + k * 11 + 7, none⟩ = some (.string RS) ∧ w2.cell? ⟨b1, o1 + k * 11 + 8, none⟩ = some (.int .i64 RVK) ∧ w2.cell? ⟨b1, o1 + k * 11 + 9, none⟩ = some (.int .i64 RVN) ∧ w2.cell? ⟨b1, o1 + k * 11 + 10, none⟩ = some (.string RVS) ∧ w2.cell? ⟨b2, o2 + k * 11, none⟩ = some (.string Op) ∧ w2.cell? ⟨b2, o2 + k * 11 + 1, none⟩ = some (.int .i64 LK) ∧ w2.cell? ⟨b2, o2 + k * 11 + 2, none⟩ = some (.string LS) ∧ w2.cell? ⟨b2, o2 + k * 11 + 3, none⟩ = some (.int .i64 LVK) ∧ w2.cell? ⟨b2, o2 + k * 11 + 4, none⟩ = some (.int .i64 LVN) ∧ w2.cell? ⟨b2, o2 + k * 11 + 5, none⟩ = some (.string LVS) ∧ w2.cell? ⟨b2, o2 + k * 11 + 6, none⟩ = some (.int .i64 RK) ∧ w2.cell? ⟨b2, o2 + k * 11 + 7, none⟩ = some (.string RS) ∧ w2.cell? ⟨b2, o2 + k * 11 + 8, none⟩ = some (.int .i64 RVK) ∧ w2.cell? ⟨b2, o2 + k * 11 + 9, none⟩ = some (.int .i64 RVN) ∧ w2.cell? ⟨b2, o2 + k * 11 + 10, none⟩ = some (.string RVS) ∧ Below w.heap.size w w2 ∧ w.heap.size ≤ w2.heap.size := by assumption
        go_wp2
        go_roundw
        case rel => exact ⟨k + 1, by omega, by go_num, hB2⟩
        case measure => simp [intOf]; omega
    · go_wp2
      go_ret
      exact ⟨rfl, hbel⟩
end Go.Proofs.YtaflokfgbmlmaacDoor
/-
  An act as it came in.
-/
namespace Go.Proofs.YtaflokfgbmlmaacDoor
open Go.ChangeShapes Go.WideShapes Go.ChangeAt Go.RowKit Go.Joins Go.Deep
set_option linter.unusedVariables false
set_option maxRecDepth 100000

theorem array5 {α : Type} {cs : Array α} (h : cs.size = 5) : ∃ c0 c1 c2 c3 c4, cs = #[c0, c1, c2, c3, c4] := by
  obtain ⟨l⟩ := cs
  match l, h with
  | [c0, c1, c2, c3, c4], _ => exact ⟨c0, c1, c2, c3, c4, rfl⟩
theorem trod_struct5 {H : Type} {enc : TypeId × Value → H} {P : Program} {w : World} {base : Nat} {spare : Nat → Bool} {held : Bool} {t : TypeId} {f0 f1 f2 f3 f4 : Field} {fuel : Nat} {cs : List Value} {x : DataW H × List MemPlace} (ht : P.underlying t = some (.struct #[f0, f1, f2, f3, f4])) (h : DataW.trod enc P w base spare held fuel t cs = some x) :
    ∃ y0 y1 y2 y3 y4 n, cs.length = P.cellsOf t ∧ DataW.trod enc P w base spare held n f0.type ((cs.drop f0.offset).take (P.cellsOf f0.type)) = some y0 ∧
      DataW.trod enc P w base spare held n f1.type ((cs.drop f1.offset).take (P.cellsOf f1.type)) = some y1 ∧ DataW.trod enc P w base spare held n f2.type ((cs.drop f2.offset).take (P.cellsOf f2.type)) = some y2 ∧
      DataW.trod enc P w base spare held n f3.type ((cs.drop f3.offset).take (P.cellsOf f3.type)) = some y3 ∧ DataW.trod enc P w base spare held n f4.type ((cs.drop f4.offset).take (P.cellsOf f4.type)) = some y4 := by
  obtain ⟨xs, n, _, rfl, hl, hlen, hf⟩ := DataW.trod_struct ht h
  match xs, hlen with
  | [y0, y1, y2, y3, y4], _ => exact ⟨y0, y1, y2, y3, y4, n, hl, by simpa using hf 0 f0 rfl, by simpa using hf 1 f1 rfl, by simpa using hf 2 f2 rfl, by simpa using hf 3 f3 rfl, by simpa using hf 4 f4 rfl⟩
theorem act_in {H : Type} {enc : TypeId × Value → H} {w : World} {b0 : Nat} {spare : Nat → Bool} {held : Bool} {r : Reach} {v : Value} {d : DataW H} {p : List MemPlace}
    (hv : Value.okWide Tryd.prog w r b0 24 v) (h : DataW.Trod enc Tryd.prog w 0 spare held 24 v d p) :
    ∃ (K : Int) (nm : ByteArray) (a : Option Addr) (len cap : Nat) (L : List X11) (N : Int) (un : ByteArray), v = .agg #[.int .i64 K, .string nm, .slice a len cap, .int .i64 N, .string un] ∧ nm.size ≤ maxLen ∧ un.size ≤ maxLen ∧ IsExprs w a len cap L := by
  obtain ⟨cs, rfl, hsz⟩ := okWide_struct Tryd.underlying24 hv
  obtain ⟨c0, c1, c2, c3, c4, rfl⟩ := array5 (hsz.trans (by kernel_rfl))
  obtain ⟨fuel, hf⟩ := h
  obtain ⟨y0, y1, y2, y3, y4, n, _, h0, h1, h2, h3, h4⟩ := trod_struct5 Tryd.underlying24 hf
  have e0 : Tryd.prog.cellsOf 3 = 1 := by kernel_rfl
  have e1 : Tryd.prog.cellsOf 9 = 1 := by kernel_rfl
  have e2 : Tryd.prog.cellsOf 22 = 1 := by kernel_rfl
  simp only [e0, e1, e2, Value.cells, List.drop_zero, List.drop_succ_cons, List.take_succ_cons, List.take_zero] at h0 h1 h2 h3 h4
  obtain ⟨K, eK, _, _⟩ := DataW.trod_int Tryd.underlying3 h0
  obtain ⟨S, eS, _, wS⟩ := DataW.trod_string Tryd.underlying9 h1
  obtain ⟨N, eN, _, _⟩ := DataW.trod_int Tryd.underlying3 h3
  obtain ⟨U, eU, _, wU⟩ := DataW.trod_string Tryd.underlying9 h4
  obtain ⟨a, len, cap, L, eL, wL⟩ := exprs_in h2
  simp only [List.cons.injEq, and_true] at eK eS eN eU
  exact ⟨K, S, a, len, cap, L, N, U, by rw [eK, eS, eN, eU, eL], wS, wU, wL⟩
end Go.Proofs.YtaflokfgbmlmaacDoor
/-
  What the functions on names answer, the tested one and the model alike: nameB of the text, in the world as it was.
-/
namespace Go.Proofs.YtaflokfgbmlmaacDoor
open Go.RowKit
set_option linter.unusedVariables false

def headB (s : ByteArray) (i : Nat) : Bool := wordB (bat s i) && (i != 0 || inB (bat s i) 97 122)
def nameB (s : ByteArray) : Bool := (List.range s.size).all (headB s) && inB s.size 1 12

theorem nameB_no {s : ByteArray} {i : Nat} (h : i < s.size) (hb : headB s i = false) : nameB s = false := by
  unfold nameB
  rw [Bool.and_eq_false_iff]
  left
  rw [← Bool.not_eq_true, List.all_eq_true]
  intro h2
  have := h2 i (by simpa using h)
  rw [hb] at this
  cases this

theorem nameB_all {s : ByteArray} (h : ∀ i, i < s.size → headB s i = true) : nameB s = inB s.size 1 12 := by
  unfold nameB
  have : (List.range s.size).all (headB s) = true := by
    rw [List.all_eq_true]; intro i hi; exact h i (by simpa using hi)
  rw [this]; simp


set_option maxHeartbeats 800000 in
theorem specNameOk_any (s : ByteArray) (w : World) (hs : s.size ≤ maxLen) :
    Calls Tryd.prog 52 #[.string s] w fun e w' => e = .returned (.bool (nameB s)) ∧ w' = w := by
  unfold maxLen at hs
  go_enter Tryd.func52, Tryd.ntmps52
  go_wp2
  go_loop [3] (fun i => ∃ k : Nat, k ≤ s.size ∧ i = .int .i64 k ∧ ∀ j, j < k → headB s j = true) (fun i => s.size - (intOf i).toNat)
  case atStart => exact ⟨0, Nat.zero_le _, rfl, fun j hj => absurd hj (Nat.not_lt_zero _)⟩
  case round =>
    obtain ⟨k, hk, rfl, hall⟩ := hrel
    have HA := hide hall
    clear hall
    by_cases hlt : k < s.size
    · have hlb : 0 ≤ ((s[k]'hlt).toNat : Int) := by omega
      have hub : ((s[k]'hlt).toNat : Int) ≤ 255 := by have := (s[k]'hlt).toNat_lt; omega
      have HH : Hid (headB s k = (wordB ((s[k]'hlt).toNat : Int) && (k != 0 || inB ((s[k]'hlt).toNat : Int) 97 122))) := by
        unfold Hid headB; rw [bat_in hlt]
      cases hw : wordB ((s[k]'hlt).toNat : Int)
      · go_wp2_with (first | (go_at_call 96; refine (l1Letter_any _ _ (by omega) (by omega)).mono ?_; rintro e w' ⟨rfl, rfl⟩))
        rw [nameB_no hlt (by rw [HH.out, hw]; rfl)]
        go_ret
        exact ⟨rfl, rfl⟩
      · by_cases hk0 : 0 < k
        · go_wp2_with (first | (go_at_call 96; refine (l1Letter_any _ _ (by omega) (by omega)).mono ?_; rintro e w' ⟨rfl, rfl⟩))
          go_round
          case rel => exact ⟨k + 1, by omega, by go_num, fun j hj => by
            by_cases hjk : j = k
            · rw [hjk, HH.out, hw]; simp; omega
            · exact HA.out j (by omega)⟩
          case measure => simp [intOf]; omega
        · have h00 : 0 < s.size := by omega
          have hlb0 : 0 ≤ ((s[0]'h00).toNat : Int) := by omega
          have hub0 : ((s[0]'h00).toNat : Int) ≤ 255 := by have := (s[0]'h00).toNat_lt; omega
          have HK : Hid (∀ b, inB ((s[0]'h00).toNat : Int) 97 122 = b → headB s 0 = b) := by
            intro b hb
            have e : k = 0 := by omega
            subst e
            rw [HH.out, hw, hb]; simp
          clear HH
          cases hi : inB ((s[0]'h00).toNat : Int) 97 122
          · go_wp2_with (first | (go_at_call 96; refine (l1Letter_any _ _ (by omega) (by omega)).mono ?_; rintro e w' ⟨rfl, rfl⟩) | (go_at_call 54; refine (l1In_any _ _ _ _).mono ?_; rintro e w' ⟨rfl, rfl⟩))
            rw [nameB_no h00 (HK.out _ hi)]
            go_ret
            exact ⟨rfl, rfl⟩
          · go_wp2_with (first | (go_at_call 96; refine (l1Letter_any _ _ (by omega) (by omega)).mono ?_; rintro e w' ⟨rfl, rfl⟩) | (go_at_call 54; refine (l1In_any _ _ _ _).mono ?_; rintro e w' ⟨rfl, rfl⟩))
            go_round
            case rel => exact ⟨1, by omega, by go_num, fun j hj => by
              obtain rfl : j = 0 := by omega
              exact HK.out _ hi⟩
            case measure => simp [intOf]; omega
    · have HN := hide (nameB_all fun i hi => HA.out i (by omega))
      go_wp2_with (first | (go_at_call 54; refine (l1In_any _ _ _ _).mono ?_; rintro e w' ⟨rfl, rfl⟩))
      go_ret
      exact ⟨ret_bool HN.out.symm, rfl⟩

theorem nameB_size {s : ByteArray} (h : ¬ (1 ≤ s.size ∧ s.size ≤ 12)) : nameB s = false := by
  unfold nameB
  rw [Bool.and_eq_false_iff]
  right
  exact inB_f (by omega)

theorem nameB_tail {s : ByteArray} (h1 : 1 ≤ s.size) (h2 : s.size ≤ 12) (hi : inB (bat s 0) 97 122 = true) : nameB s = allB wordB s := by
  unfold nameB allB
  rw [inB_t (by omega), Bool.and_true]
  rw [Bool.eq_iff_iff, List.all_eq_true, List.all_eq_true]
  have e : ∀ i, headB s i = wordB (bat s i) := fun i => by
    unfold headB
    by_cases h0 : i = 0
    · subst h0; rw [hi]; simp
    · have : (i != 0) = true := by simpa using h0
      rw [this]; simp
  constructor
  · intro h i hm; rw [← e]; exact h i hm
  · intro h i hm; rw [e]; exact h i hm

set_option maxHeartbeats 800000 in
theorem implNameOk_any (s : ByteArray) (w : World) (hs : s.size ≤ maxLen) :
    Calls Tryd.prog 51 #[.string s] w fun e w' => e = .returned (.bool (nameB s)) ∧ w' = w := by
  have hs2 := hs
  unfold maxLen at hs2
  by_cases h1 : 1 ≤ s.size
  · by_cases h2 : s.size ≤ 12
    · have h0 : 0 < s.size := h1
      have HI : Hid (bat s 0 = ((s[0]'h0).toNat : Int)) := bat_in h0
      cases hi : inB ((s[0]'h0).toNat : Int) 97 122
      · rw [nameB_no h0 (by unfold headB; rw [HI.out, hi]; simp)]
        go_enter Tryd.func51, Tryd.ntmps51
        go_wp2_with (first | (go_at_call 93; refine (isSmall_any _ _).mono ?_; rintro e w' ⟨rfl, rfl⟩))
        go_ret
        exact ⟨rfl, rfl⟩
      · have HN := hide (nameB_tail h1 h2 (by rw [HI.out, hi]))
        go_enter Tryd.func51, Tryd.ntmps51
        go_wp2_with fail
        refine (isSmall_any _ _).mono ?_
        rintro e w' ⟨rfl, rfl⟩
        rw [hi]
        go_wp2_with fail
        refine (allBytesWord_any _ _ hs).mono ?_
        rintro e w' ⟨rfl, rfl⟩
        generalize allB wordB s = r at HN ⊢
        go_wp2
        go_ret
        exact ⟨ret_bool HN.out.symm, rfl⟩
    · rw [nameB_size (by omega)]
      go_enter Tryd.func51, Tryd.ntmps51
      go_wp2
      go_ret
      exact ⟨rfl, rfl⟩
  · rw [nameB_size (by omega)]
    go_enter Tryd.func51, Tryd.ntmps51
    go_wp2
    go_ret
    exact ⟨rfl, rfl⟩


end Go.Proofs.YtaflokfgbmlmaacDoor
/-
  When a token is right, plainly: variables, marks, tokB.
-/
namespace Go.Proofs.YtaflokfgbmlmaacDoor
open Go.RowKit
set_option linter.unusedVariables false

def largeB (x : Int) : Bool := inB x 65 90
def varByteB (x : Int) : Bool := inB x 65 90 || wordB x
def varAt (s : ByteArray) (i : Nat) : Bool := inB (bat s i) 65 90 || (i != 0 && wordB (bat s i))
/-- is a text a variable? -/
def varB (s : ByteArray) : Bool := (List.range s.size).all (varAt s) && inB s.size 1 12
theorem varB_no {s : ByteArray} {i : Nat} (h : i < s.size) (hb : varAt s i = false) : varB s = false := by
  unfold varB
  rw [Bool.and_eq_false_iff]
  left
  rw [← Bool.not_eq_true, List.all_eq_true]
  intro h2
  have := h2 i (by simpa using h)
  rw [hb] at this
  cases this
theorem varB_all {s : ByteArray} (h : ∀ i, i < s.size → varAt s i = true) : varB s = inB s.size 1 12 := by
  unfold varB
  have : (List.range s.size).all (varAt s) = true := by
    rw [List.all_eq_true]; intro i hi; exact h i (by simpa using hi)
  rw [this]; simp
theorem varB_size {s : ByteArray} (h : ¬ (1 ≤ s.size ∧ s.size ≤ 12)) : varB s = false := by
  unfold varB
  rw [Bool.and_eq_false_iff]
  right
  exact inB_f (by omega)
theorem varB_tail {s : ByteArray} (h1 : 1 ≤ s.size) (h2 : s.size ≤ 12) (hi : inB (bat s 0) 65 90 = true) : varB s = allB varByteB s := by
  unfold varB allB
  rw [inB_t (by omega), Bool.and_true]
  rw [Bool.eq_iff_iff, List.all_eq_true, List.all_eq_true]
  have e : ∀ i, varAt s i = varByteB (bat s i) := fun i => by
    unfold varAt varByteB
    by_cases h0 : i = 0
    · subst h0; rw [hi]; simp
    · have : (i != 0) = true := by simpa using h0
      rw [this]; simp
  constructor
  · intro h i hm; rw [← e]; exact h i hm
  · intro h i hm; rw [e]; exact h i hm

/-- the marks of one byte -/
def ones : List UInt8 := [40, 41, 44, 46, 58, 45, 43, 61, 35, 60, 33, 95]
/-- is a text a mark? -/
def markB (s : ByteArray) : Bool := (s.toList == [45, 62]) || ones.any (fun c => s.toList == [c])

/-- is a token right? -/
def tokB (K N : Int) (S : ByteArray) : Bool :=
  if K = 1 then inB N 0 1000000000 && decide (S.size = 0)
  else decide (N = 0) && (if K = 2 then nameB S else if K = 3 then varB S else if K = 4 then textB S else if K = 5 then markB S else false)
theorem tokB_num (N : Int) (S : ByteArray) : tokB 1 N S = (inB N 0 1000000000 && decide (S.size = 0)) := by simp [tokB]
theorem tokB_n0 {K N : Int} (S : ByteArray) (hK : K ≠ 1) (hN : N ≠ 0) : tokB K N S = false := by simp [tokB, hK, hN]
/-- is a text one of its kind? -/
def wordOfB (K : Int) (S : ByteArray) : Bool := if K = 2 then nameB S else if K = 3 then varB S else if K = 4 then textB S else if K = 5 then markB S else false
theorem tokB_word {K : Int} (S : ByteArray) (hK : K ≠ 1) : tokB K 0 S = wordOfB K S := by simp [tokB, wordOfB, hK]
theorem tokB_or {K N : Int} (S : ByteArray) (hK : K ≠ 1) : tokB K N S = (decide (N = 0) && wordOfB K S) := by simp [tokB, wordOfB, hK]
theorem varB_le {s : ByteArray} (h : varB s = true) : s.size ≤ 12 := by
  by_cases h2 : 1 ≤ s.size ∧ s.size ≤ 12
  · exact h2.2
  · rw [varB_size h2] at h; cases h
theorem nameB_le {s : ByteArray} (h : nameB s = true) : s.size ≤ 12 := by
  by_cases h2 : 1 ≤ s.size ∧ s.size ≤ 12
  · exact h2.2
  · rw [nameB_size h2] at h; cases h
theorem toList_size (s : ByteArray) : s.toList.length = s.size := by
  rw [ByteArray.toList_eq]; exact Array.length_toList
theorem markB_le {s : ByteArray} (h : markB s = true) : s.size ≤ 2 := by
  unfold markB at h
  rw [Bool.or_eq_true, List.any_eq_true] at h
  rw [← toList_size]
  rcases h with h | ⟨c, _, h⟩
  · rw [beq_iff_eq] at h; rw [h]; simp
  · rw [beq_iff_eq] at h; rw [h]; simp
theorem wordOfB_le {K : Int} {S : ByteArray} (h : wordOfB K S = true) : S.size ≤ 20 := by
  unfold wordOfB at h
  split at h
  · have := nameB_le h; omega
  · split at h
    · have := varB_le h; omega
    · split at h
      · exact textB_le h
      · split at h
        · have := markB_le h; omega
        · cases h
end Go.Proofs.YtaflokfgbmlmaacDoor
/-
  What the tested functions on tokens answer: tokB of the token.
-/
namespace Go.Proofs.YtaflokfgbmlmaacDoor
open Go.RowKit
set_option linter.unusedVariables false

set_option maxHeartbeats 400000 in
theorem isLarge_any (x : Int) (w : World) :
    Calls Tryd.prog 113 #[.int .u8 x] w fun e w' => e = .returned (.bool (inB x 65 90)) ∧ w' = w := by
  by_cases h1 : 65 ≤ x
  · by_cases h2 : x ≤ 90
    · rw [inB_t ⟨h1, h2⟩]
      go_enter Tryd.func113, Tryd.ntmps113
      go_wp2
      go_ret
      exact ⟨rfl, rfl⟩
    · rw [inB_f (by omega)]
      go_enter Tryd.func113, Tryd.ntmps113
      go_wp2
      go_ret
      exact ⟨rfl, rfl⟩
  · rw [inB_f (by omega)]
    go_enter Tryd.func113, Tryd.ntmps113
    go_wp2
    go_ret
    exact ⟨rfl, rfl⟩

set_option maxHeartbeats 400000 in
theorem isVarByte_any (x : Int) (w : World) :
    Calls Tryd.prog 114 #[.int .u8 x] w fun e w' => e = .returned (.bool (varByteB x)) ∧ w' = w := by
  cases ha : inB x 65 90 <;> cases hb : wordB x
  all_goals
    have hr : varByteB x = (inB x 65 90 || wordB x) := rfl
    rw [ha, hb] at hr
    rw [hr]
    clear hr
    go_enter Tryd.func114, Tryd.ntmps114
    go_wp2_with (first | (go_at_call 113; refine (isLarge_any _ _).mono ?_; rintro e w' ⟨rfl, rfl⟩) | (go_at_call 95; refine (isWordByte_any _ _).mono ?_; rintro e w' ⟨rfl, rfl⟩))
    go_ret
    exact ⟨rfl, rfl⟩

set_option maxHeartbeats 800000 in
theorem allBytesVar_any (s : ByteArray) (w : World) (hs : s.size ≤ maxLen) :
    Calls Tryd.prog 94 #[.string s, .func (.func 114) #[] #[]] w fun e w' => e = .returned (.bool (allB varByteB s)) ∧ w' = w := by
  unfold maxLen at hs
  go_enter Tryd.func94, Tryd.ntmps94
  go_wp2
  go_loop [8] (fun i => ∃ k : Nat, k ≤ s.size ∧ i = .int .i64 k ∧ ∀ j, j < k → varByteB (bat s j) = true) (fun i => s.size - (intOf i).toNat)
  case atStart => exact ⟨0, Nat.zero_le _, rfl, fun j hj => absurd hj (Nat.not_lt_zero _)⟩
  case round =>
    obtain ⟨k, hk, rfl, hall⟩ := hrel
    have HA := hide hall
    clear hall
    by_cases hlt : k < s.size
    · have HB := hide (bat_in hlt)
      cases hw : varByteB ((s[k]'hlt).toNat : Int)
      · have HN := hide (allB_no (P := varByteB) hlt (by rw [HB.out, hw]))
        go_wp2_with (go_at_call 114; refine (isVarByte_any _ _).mono ?_; rintro e w' ⟨rfl, rfl⟩)
        go_ret
        exact ⟨ret_bool HN.out.symm, rfl⟩
      · have HW := hide hw
        go_wp2_with (go_at_call 114; refine (isVarByte_any _ _).mono ?_; rintro e w' ⟨rfl, rfl⟩)
        go_round
        case rel => exact ⟨k + 1, by omega, by go_num, fun j hj => by
          by_cases hjk : j = k
          · rw [hjk, HB.out, HW.out]
          · exact HA.out j (by omega)⟩
        case measure => simp [intOf]; omega
    · have HN := hide (allB_yes (P := varByteB) fun i hi => HA.out i (by omega))
      go_wp2
      go_ret
      exact ⟨ret_bool HN.out.symm, rfl⟩

set_option maxHeartbeats 800000 in
theorem isVar_any (s : ByteArray) (w : World) (hs : s.size ≤ maxLen) :
    Calls Tryd.prog 71 #[.string s] w fun e w' => e = .returned (.bool (varB s)) ∧ w' = w := by
  have hs2 := hs
  unfold maxLen at hs2
  by_cases h1 : 1 ≤ s.size
  · by_cases h2 : s.size ≤ 12
    · have h0 : 0 < s.size := h1
      have HI : Hid (bat s 0 = ((s[0]'h0).toNat : Int)) := bat_in h0
      cases hi : inB ((s[0]'h0).toNat : Int) 65 90
      · rw [varB_no h0 (by unfold varAt; rw [HI.out, hi]; simp)]
        go_enter Tryd.func71, Tryd.ntmps71
        go_wp2_with (first | (go_at_call 113; refine (isLarge_any _ _).mono ?_; rintro e w' ⟨rfl, rfl⟩))
        go_ret
        exact ⟨rfl, rfl⟩
      · have HN := hide (varB_tail h1 h2 (by rw [HI.out, hi]))
        go_enter Tryd.func71, Tryd.ntmps71
        go_wp2_with fail
        refine (isLarge_any _ _).mono ?_
        rintro e w' ⟨rfl, rfl⟩
        rw [hi]
        go_wp2_with fail
        refine (allBytesVar_any _ _ hs).mono ?_
        rintro e w' ⟨rfl, rfl⟩
        generalize allB varByteB s = r at HN ⊢
        go_wp2
        go_ret
        exact ⟨ret_bool HN.out.symm, rfl⟩
    · rw [varB_size (by omega)]
      go_enter Tryd.func71, Tryd.ntmps71
      go_wp2
      go_ret
      exact ⟨rfl, rfl⟩
  · rw [varB_size (by omega)]
    go_enter Tryd.func71, Tryd.ntmps71
    go_wp2
    go_ret
    exact ⟨rfl, rfl⟩

end Go.Proofs.YtaflokfgbmlmaacDoor
/-
  What the model's functions on tokens answer: tokB of the token.
-/
namespace Go.Proofs.YtaflokfgbmlmaacDoor
open Go.RowKit
set_option linter.unusedVariables false

set_option maxHeartbeats 400000 in
theorem l5Large_any (x : Int) (w : World) (hl : 0 ≤ x) (hu : x ≤ 255) :
    Calls Tryd.prog 116 #[.int .u8 x] w fun e w' => e = .returned (.bool (inB x 65 90)) ∧ w' = w := by
  cases ha : inB x 65 90
  all_goals
    go_enter Tryd.func116, Tryd.ntmps116
    go_wp2_with (go_at_call 54; refine (l1In_any _ _ _ _).mono ?_; rintro e w' ⟨rfl, rfl⟩)
    go_ret
    exact ⟨rfl, rfl⟩

set_option maxHeartbeats 1600000 in
theorem l5VarOk_any (s : ByteArray) (w : World) (hs : s.size ≤ maxLen) :
    Calls Tryd.prog 73 #[.string s] w fun e w' => e = .returned (.bool (varB s)) ∧ w' = w := by
  unfold maxLen at hs
  go_enter Tryd.func73, Tryd.ntmps73
  go_wp2
  go_loop [3] (fun i => ∃ k : Nat, k ≤ s.size ∧ i = .int .i64 k ∧ ∀ j, j < k → varAt s j = true) (fun i => s.size - (intOf i).toNat)
  case atStart => exact ⟨0, Nat.zero_le _, rfl, fun j hj => absurd hj (Nat.not_lt_zero _)⟩
  case round =>
    obtain ⟨k, hk, rfl, hall⟩ := hrel
    have HA := hide hall
    clear hall
    by_cases hlt : k < s.size
    · have hlb : 0 ≤ ((s[k]'hlt).toNat : Int) := by omega
      have hub : ((s[k]'hlt).toNat : Int) ≤ 255 := by have := (s[k]'hlt).toNat_lt; omega
      have HH : Hid (varAt s k = (inB ((s[k]'hlt).toNat : Int) 65 90 || (k != 0 && wordB ((s[k]'hlt).toNat : Int)))) := by
        unfold Hid varAt; rw [bat_in hlt]
      cases hw : inB ((s[k]'hlt).toNat : Int) 65 90
      · by_cases hk0 : 0 < k
        · have k0 : ((k : Int) == 0) = false := by simp; omega
          have k1 : (k != 0) = true := by simp; omega
          rw [hw, k1] at HH
          clear k1
          cases hv : wordB ((s[k]'hlt).toNat : Int)
          · rw [hv] at HH
            have HN := hide (varB_no hlt (by rw [HH.out]; rfl))
            go_wp2_with (first | (go_at_call 116; refine (l5Large_any _ _ (by omega) (by omega)).mono ?_; rintro e w' ⟨rfl, rfl⟩) | (go_at_call 96; refine (l1Letter_any _ _ (by omega) (by omega)).mono ?_; rintro e w' ⟨rfl, rfl⟩))
            go_ret
            exact ⟨ret_bool HN.out.symm, rfl⟩
          · rw [hv] at HH
            go_wp2_with (first | (go_at_call 116; refine (l5Large_any _ _ (by omega) (by omega)).mono ?_; rintro e w' ⟨rfl, rfl⟩) | (go_at_call 96; refine (l1Letter_any _ _ (by omega) (by omega)).mono ?_; rintro e w' ⟨rfl, rfl⟩))
            go_round
            case rel => exact ⟨k + 1, by omega, by go_num, fun j hj => by
              by_cases hjk : j = k
              · rw [hjk, HH.out]; rfl
              · exact HA.out j (by omega)⟩
            case measure => simp [intOf]; omega
        · obtain rfl : k = 0 := by omega
          rw [hw] at HH
          have HN := hide (varB_no hlt (by rw [HH.out]; rfl))
          go_wp2_with (first | (go_at_call 116; refine (l5Large_any _ _ (by omega) (by omega)).mono ?_; rintro e w' ⟨rfl, rfl⟩) | (go_at_call 96; refine (l1Letter_any _ _ (by omega) (by omega)).mono ?_; rintro e w' ⟨rfl, rfl⟩))
          go_ret
          exact ⟨ret_bool HN.out.symm, rfl⟩
      · rw [hw, Bool.true_or] at HH
        go_wp2_with (first | (go_at_call 116; refine (l5Large_any _ _ (by omega) (by omega)).mono ?_; rintro e w' ⟨rfl, rfl⟩))
        go_round
        case rel => exact ⟨k + 1, by omega, by go_num, fun j hj => by
          by_cases hjk : j = k
          · rw [hjk, HH.out]
          · exact HA.out j (by omega)⟩
        case measure => simp [intOf]; omega
    · have HN := hide (varB_all fun i hi => HA.out i (by omega))
      go_wp2_with (first | (go_at_call 54; refine (l1In_any _ _ _ _).mono ?_; rintro e w' ⟨rfl, rfl⟩))
      go_ret
      exact ⟨ret_bool HN.out.symm, rfl⟩

def lit12 : ByteArray := ⟨#[40, 41, 44, 46, 58, 45, 43, 61, 35, 60, 33, 95]⟩
theorem one_at {k : Nat} (h : k < 12) : ∃ c, ones[k]? = some c ∧ (ByteArray.extract ⟨#[40, 41, 44, 46, 58, 45, 43, 61, 35, 60, 33, 95]⟩ k (k + 1)).toList = [c] := by
  match k, h with
  | 0, _ => exact ⟨_, rfl, by decide +kernel⟩
  | 1, _ => exact ⟨_, rfl, by decide +kernel⟩
  | 2, _ => exact ⟨_, rfl, by decide +kernel⟩
  | 3, _ => exact ⟨_, rfl, by decide +kernel⟩
  | 4, _ => exact ⟨_, rfl, by decide +kernel⟩
  | 5, _ => exact ⟨_, rfl, by decide +kernel⟩
  | 6, _ => exact ⟨_, rfl, by decide +kernel⟩
  | 7, _ => exact ⟨_, rfl, by decide +kernel⟩
  | 8, _ => exact ⟨_, rfl, by decide +kernel⟩
  | 9, _ => exact ⟨_, rfl, by decide +kernel⟩
  | 10, _ => exact ⟨_, rfl, by decide +kernel⟩
  | 11, _ => exact ⟨_, rfl, by decide +kernel⟩

end Go.Proofs.YtaflokfgbmlmaacDoor
/-
  When two values are the same, plainly.
-/
namespace Go.Proofs.YtaflokfgbmlmaacDoor
open Go.RowKit
set_option linter.unusedVariables false

theorem toList_inj {S S' : ByteArray} (h : S.toList = S'.toList) : S = S' := by
  rw [ByteArray.toList_eq, ByteArray.toList_eq] at h
  cases S; cases S'
  simp at h
  rw [h]
theorem v3_cases (v u : V3) : v = u ∨ (v ≠ u ∧ ((v.K == u.K) = false ∨ ((v.K == u.K) = true ∧ (v.N == u.N) = false) ∨ ((v.K == u.K) = true ∧ (v.N == u.N) = true ∧ (v.S.toList == u.S.toList) = false))) := by
  by_cases h1 : v.K = u.K
  · by_cases h2 : v.N = u.N
    · by_cases h3 : v.S.toList = u.S.toList
      · left; exact V3.ext' h1 h2 (toList_inj h3)
      · right
        exact ⟨fun e => h3 (by rw [e]), .inr (.inr ⟨by simpa using h1, by simpa using h2, by simpa using h3⟩)⟩
    · right
      exact ⟨fun e => h2 (by rw [e]), .inr (.inl ⟨by simpa using h1, by simpa using h2⟩)⟩
  · right
    exact ⟨fun e => h1 (by rw [e]), .inl (by simpa using h1)⟩
instance : DecidableEq V3 := fun a b => by
  by_cases h : a.K = b.K ∧ a.N = b.N ∧ a.S = b.S
  · exact .isTrue (V3.ext' h.1 h.2.1 h.2.2)
  · exact .isFalse (fun e => h (by rw [e]; exact ⟨rfl, rfl, rfl⟩))

end Go.Proofs.YtaflokfgbmlmaacDoor
/-
  What the functions on an argument's rightness answer: argB, the tested one and the model alike.
-/
namespace Go.Proofs.YtaflokfgbmlmaacDoor
open Go.RowKit
set_option linter.unusedVariables false
set_option maxRecDepth 100000

def zV : V3 := ⟨0, 0, ⟨#[]⟩⟩
/-- is an argument right? -/
def argB (K : Int) (S : ByteArray) (V : V3) : Bool :=
  if K = 1 then varB S && decide (V = zV) else if K = 2 then valB V.K V.N V.S && decide (S.size = 0) else if K = 3 then decide (S.size = 0) && decide (V = zV) else false
def A5.ok (x : A5) : Bool := argB x.K x.S x.V

theorem eqVs (v u : V3) (w : World) (d : Nat) : (Op.equalIn (d + 3) 37 (.agg #[.int .i64 v.K, .int .i64 v.N, .string v.S]) (.agg #[.int .i64 u.K, .int .i64 u.N, .string u.S])).run Tryd.prog w = .ok (decide (v = u)) w := by
  rcases v3_cases v u with rfl | ⟨hne, hv⟩
  · have k1 : (v.K == v.K) = true := by simp
    have k2 : (v.N == v.N) = true := by simp
    have k3 : (v.S.toList == v.S.toList) = true := by simp
    rw [decide_eq_true rfl]
    go_simp
  · rw [decide_eq_false hne]
    clear hne
    rcases hv with k1 | ⟨k1, k2⟩ | ⟨k1, k2, k3⟩ <;> go_simp
theorem eqA (K K' : Int) (S S' : ByteArray) (v u : V3) (w : World) (d : Nat) : (Op.equalIn (d + 5) 39 (.agg #[.int .i64 K, .string S, .int .i64 v.K, .int .i64 v.N, .string v.S]) (.agg #[.int .i64 K', .string S', .int .i64 u.K, .int .i64 u.N, .string u.S])).run Tryd.prog w = .ok (decide (K = K') && decide (S = S') && decide (v = u)) w := by
  have hv := fun w => eqVs v u w (d + 1)
  by_cases h1 : K = K'
  · subst h1
    have k1 : (K == K) = true := by simp
    by_cases h2 : S = S'
    · subst h2
      have k2 : (S.toList == S.toList) = true := by simp
      simp only [decide_true, Bool.true_and]
      generalize decide (v = u) = r at hv ⊢
      cases r <;> go_simp
    · have k2 : (S.toList == S'.toList) = false := by
        simp only [beq_eq_false_iff_ne, ne_eq]
        exact fun e => h2 (toList_inj e)
      simp only [decide_true, decide_eq_false h2, Bool.and_false, Bool.false_and]
      clear h2
      go_simp
  · have k1 : (K == K') = false := by simpa using h1
    simp only [decide_eq_false h1, Bool.false_and]
    clear h1
    go_simp
theorem eqA9 (K K' : Int) (S S' : ByteArray) (VK VN : Int) (VS : ByteArray) (UK UN : Int) (US : ByteArray) (b : Bool) (hb : (decide (K = K') && decide (S = S') && decide ((⟨VK, VN, VS⟩ : V3) = ⟨UK, UN, US⟩)) = b) (w : World) :
    (Op.equalIn 9999 39 (.agg #[.int .i64 K, .string S, .int .i64 VK, .int .i64 VN, .string VS]) (.agg #[.int .i64 K', .string S', .int .i64 UK, .int .i64 UN, .string US])).run Tryd.prog w = .ok b w := by
  rw [← hb]; exact eqA K K' S S' ⟨VK, VN, VS⟩ ⟨UK, UN, US⟩ w 9994
theorem eqV9 (VK VN : Int) (VS : ByteArray) (UK UN : Int) (US : ByteArray) (b : Bool) (hb : decide ((⟨VK, VN, VS⟩ : V3) = ⟨UK, UN, US⟩) = b) (w : World) :
    (Op.equalIn 9999 37 (.agg #[.int .i64 VK, .int .i64 VN, .string VS]) (.agg #[.int .i64 UK, .int .i64 UN, .string US])).run Tryd.prog w = .ok b w := by
  rw [← hb]; exact eqVs ⟨VK, VN, VS⟩ ⟨UK, UN, US⟩ w 9996
theorem below_gn' {w w' : World} (h : w.grownBy w' none) : Below w.heap.size w w' := (Below.refl _ _).grown h (Nat.le_refl _) (fun k hk => by cases hk)
theorem cell_gn {w w' : World} (h : w.grownBy w' none) {a : Addr} {v : Value} (hc : w.cell? a = some v) : w'.cell? a = some v := h.cell hc (by simp)
theorem dec_empty (S : ByteArray) : decide (S = (⟨#[]⟩ : ByteArray)) = decide (S.size = 0) := by
  rw [decide_eq_decide]
  exact ⟨fun h => by rw [h]; rfl, empty_of_size⟩
/-- a value is none, or it parts from none at its kind, its number or its text -/
theorem v_cases (VK VN : Int) (VS : ByteArray) : (VK = 0 ∧ VN = 0 ∧ VS = ⟨#[]⟩) ∨ (VK == 0) = false ∨ (VK = 0 ∧ (VN == 0) = false) ∨ (VK = 0 ∧ VN = 0 ∧ VS.size ≠ 0) := by
  by_cases h1 : VK = 0
  · by_cases h2 : VN = 0
    · by_cases h3 : VS.size = 0
      · exact .inl ⟨h1, h2, empty_of_size h3⟩
      · exact .inr (.inr (.inr ⟨h1, h2, h3⟩))
    · exact .inr (.inr (.inl ⟨h1, by simpa using h2⟩))
  · exact .inr (.inl (by simpa using h1))
theorem argB1 (S : ByteArray) (V : V3) : argB 1 S V = (varB S && decide (V = zV)) := by simp [argB]
theorem argB2 (S : ByteArray) (V : V3) : argB 2 S V = (valB V.K V.N V.S && decide (S.size = 0)) := by simp [argB]
theorem argB3 (S : ByteArray) (V : V3) : argB 3 S V = (decide (S.size = 0) && decide (V = zV)) := by simp [argB]
theorem argB_no {K : Int} (S : ByteArray) (V : V3) (h1 : K ≠ 1) (h2 : K ≠ 2) (h3 : K ≠ 3) : argB K S V = false := by simp [argB, h1, h2, h3]
theorem zV_K {VK VN : Int} {VS : ByteArray} (h : (VK == 0) = false) : decide ((⟨VK, VN, VS⟩ : V3) = zV) = false := by
  simp only [zV, V3.mk.injEq, decide_eq_false_iff_not]; intro e; simp [e.1] at h
theorem zV_N {VN : Int} {VS : ByteArray} (h : (VN == 0) = false) : decide ((⟨0, VN, VS⟩ : V3) = zV) = false := by
  simp only [zV, V3.mk.injEq, decide_eq_false_iff_not]; intro e; simp [e.2.1] at h
theorem zV_S {VS : ByteArray} (h : VS.size ≠ 0) : decide ((⟨0, 0, VS⟩ : V3) = zV) = false := by
  simp only [zV, V3.mk.injEq, decide_eq_false_iff_not]; intro e; rw [e.2.2] at h; exact h rfl
theorem zV_z : decide ((⟨0, 0, ⟨#[]⟩⟩ : V3) = zV) = true := by simp [zV]

set_option maxHeartbeats 3200000 in
theorem implArgOk_any (K : Int) (S : ByteArray) (VK VN : Int) (VS : ByteArray) (w : World) (hs : S.size ≤ maxLen) (hv : VS.size ≤ maxLen) :
    Calls Tryd.prog 31 #[.agg #[.int .i64 K, .string S, .int .i64 VK, .int .i64 VN, .string VS]] w fun e w' => e = .returned (.bool (argB K S ⟨VK, VN, VS⟩)) ∧ Below w.heap.size w w' := by
  have b0 := below_al w (.cells #[.int .i64 K, .string S, .int .i64 VK, .int .i64 VN, .string VS] 39)
  have e1 : (S.toList == S.toList) = true := by simp
  have e2 : (VS.toList == VS.toList) = true := by simp
  have e3 : (VK == VK) = true := by simp
  have e4 : (VN == VN) = true := by simp
  by_cases h1 : K = 1
  · subst h1
    rcases v_cases VK VN VS with ⟨rfl, rfl, rfl⟩ | kz | ⟨rfl, kz⟩ | ⟨rfl, rfl, kz⟩
    · have HR := hide (argB1 S ⟨0, 0, ⟨#[]⟩⟩)
      rw [zV_z] at HR
      go_enter Tryd.func31, Tryd.ntmps31
      go_wp2_with (go_at_call 71; refine (isVar_any _ _ hs).mono ?_; rintro e w' ⟨rfl, rfl⟩)
      go_ret
      exact ⟨ret_bool (by rw [HR.out]; simp), b0⟩
    · have HR := hide (argB1 S ⟨VK, VN, VS⟩)
      rw [(zV_K kz)] at HR
      go_enter Tryd.func31, Tryd.ntmps31
      go_wp2
      go_ret
      exact ⟨ret_bool (by rw [HR.out]; simp), b0⟩
    · have HR := hide (argB1 S ⟨0, VN, VS⟩)
      rw [(zV_N kz)] at HR
      go_enter Tryd.func31, Tryd.ntmps31
      go_wp2
      go_ret
      exact ⟨ret_bool (by rw [HR.out]; simp), b0⟩
    · have HR := hide (argB1 S ⟨0, 0, VS⟩)
      rw [(zV_S kz)] at HR
      have ke := isEmpty_false kz
      clear kz
      go_enter Tryd.func31, Tryd.ntmps31
      go_wp2
      go_ret
      exact ⟨ret_bool (by rw [HR.out]; simp), b0⟩
  · have k1 : (K == 1) = false := by simpa using h1
    by_cases h2 : K = 2
    · subst h2
      by_cases hz : S.size = 0
      · obtain rfl := empty_of_size hz
        have HR := hide (argB2 ⟨#[]⟩ ⟨VK, VN, VS⟩)
        go_enter Tryd.func31, Tryd.ntmps31
        go_wp2_with fail
        refine (implValOk_any _ _ _ _ hv).mono ?_
        rintro e w1 ⟨rfl, hb⟩
        have B1 : Below w.heap.size w w1 := b0.trans (hb.mono b0.size)
        go_wp2
        go_ret
        exact ⟨ret_bool (by rw [HR.out, decide_eq_true (show (⟨#[]⟩ : ByteArray).size = 0 from rfl)]; simp), B1⟩
      · have HR := hide (argB2 S ⟨VK, VN, VS⟩)
        rw [decide_eq_false hz] at HR
        have hE := isEmpty_false hz
        clear hz
        go_enter Tryd.func31, Tryd.ntmps31
        go_wp2
        go_ret
        exact ⟨ret_bool (by rw [HR.out]; simp), b0⟩
    · have k2 : (K == 2) = false := by simpa using h2
      by_cases h3 : K = 3
      · subst h3
        clear h1 h2 k1 k2
        by_cases hz : S.size = 0
        · obtain rfl := empty_of_size hz
          rcases v_cases VK VN VS with ⟨rfl, rfl, rfl⟩ | kz | ⟨rfl, kz⟩ | ⟨rfl, rfl, kz⟩
          · have HR := hide (argB3 ⟨#[]⟩ ⟨0, 0, ⟨#[]⟩⟩)
            rw [zV_z] at HR
            go_enter Tryd.func31, Tryd.ntmps31
            go_wp2
            go_ret
            exact ⟨ret_bool (by rw [HR.out, decide_eq_true (show (⟨#[]⟩ : ByteArray).size = 0 from rfl)]; rfl), b0⟩
          · have HR := hide (argB3 ⟨#[]⟩ ⟨VK, VN, VS⟩)
            rw [(zV_K kz)] at HR
            go_enter Tryd.func31, Tryd.ntmps31
            go_wp2
            go_ret
            exact ⟨ret_bool (by rw [HR.out, decide_eq_true (show (⟨#[]⟩ : ByteArray).size = 0 from rfl)]; rfl), b0⟩
          · have HR := hide (argB3 ⟨#[]⟩ ⟨0, VN, VS⟩)
            rw [(zV_N kz)] at HR
            go_enter Tryd.func31, Tryd.ntmps31
            go_wp2
            go_ret
            exact ⟨ret_bool (by rw [HR.out, decide_eq_true (show (⟨#[]⟩ : ByteArray).size = 0 from rfl)]; rfl), b0⟩
          · have HR := hide (argB3 ⟨#[]⟩ ⟨0, 0, VS⟩)
            rw [(zV_S kz)] at HR
            have ke := isEmpty_false kz
            clear kz
            go_enter Tryd.func31, Tryd.ntmps31
            go_wp2
            go_ret
            exact ⟨ret_bool (by rw [HR.out, decide_eq_true (show (⟨#[]⟩ : ByteArray).size = 0 from rfl)]; rfl), b0⟩
        · have HR := hide (argB3 S ⟨VK, VN, VS⟩)
          rw [decide_eq_false hz] at HR
          have hE := isEmpty_false hz
          clear hz
          go_enter Tryd.func31, Tryd.ntmps31
          go_wp2
          go_ret
          exact ⟨ret_bool (by rw [HR.out]; simp), b0⟩
      · have HR := hide (argB_no S ⟨VK, VN, VS⟩ h1 h2 h3)
        have k3 : (K == 3) = false := by simpa using h3
        clear h1 h2 h3
        go_enter Tryd.func31, Tryd.ntmps31
        go_wp2
        go_ret
        exact ⟨ret_bool HR.out.symm, b0⟩

set_option maxHeartbeats 3200000 in
theorem specArgOk_any (K : Int) (S : ByteArray) (VK VN : Int) (VS : ByteArray) (w : World) (hs : S.size ≤ maxLen) (hv : VS.size ≤ maxLen) :
    Calls Tryd.prog 32 #[.agg #[.int .i64 K, .string S, .int .i64 VK, .int .i64 VN, .string VS]] w fun e w' => e = .returned (.bool (argB K S ⟨VK, VN, VS⟩)) ∧ Below w.heap.size w w' := by
  have b0 := below_al w (.cells #[.int .i64 K, .string S, .int .i64 VK, .int .i64 VN, .string VS] 39)
  have e1 : (S.toList == S.toList) = true := by simp
  have e2 : (VS.toList == VS.toList) = true := by simp
  have e3 : (VK == VK) = true := by simp
  have e4 : (VN == VN) = true := by simp
  by_cases h1 : K = 1
  · subst h1
    rcases v_cases VK VN VS with ⟨rfl, rfl, rfl⟩ | kz | ⟨rfl, kz⟩ | ⟨rfl, rfl, kz⟩
    · have HR := hide (argB1 S ⟨0, 0, ⟨#[]⟩⟩)
      rw [zV_z] at HR
      cases hb : varB S
      all_goals
        go_enter Tryd.func32, Tryd.ntmps32
        go_wp2_with (go_at_call 73; refine (l5VarOk_any _ _ hs).mono ?_; rintro e w' ⟨rfl, rfl⟩; rw [hb])
        go_ret
        exact ⟨ret_bool (by rw [HR.out, hb]; rfl), b0⟩
    · have HR := hide (argB1 S ⟨VK, VN, VS⟩)
      rw [(zV_K kz)] at HR
      cases hb : varB S
      all_goals
        go_enter Tryd.func32, Tryd.ntmps32
        go_wp2_with (go_at_call 73; refine (l5VarOk_any _ _ hs).mono ?_; rintro e w' ⟨rfl, rfl⟩; rw [hb])
        go_ret
        exact ⟨ret_bool (by rw [HR.out, hb]; rfl), b0⟩
    · have HR := hide (argB1 S ⟨0, VN, VS⟩)
      rw [(zV_N kz)] at HR
      cases hb : varB S
      all_goals
        go_enter Tryd.func32, Tryd.ntmps32
        go_wp2_with (go_at_call 73; refine (l5VarOk_any _ _ hs).mono ?_; rintro e w' ⟨rfl, rfl⟩; rw [hb])
        go_ret
        exact ⟨ret_bool (by rw [HR.out, hb]; rfl), b0⟩
    · have HR := hide (argB1 S ⟨0, 0, VS⟩)
      rw [(zV_S kz)] at HR
      have ke := isEmpty_false kz
      clear kz
      cases hb : varB S
      all_goals
        go_enter Tryd.func32, Tryd.ntmps32
        go_wp2_with (go_at_call 73; refine (l5VarOk_any _ _ hs).mono ?_; rintro e w' ⟨rfl, rfl⟩; rw [hb])
        go_ret
        exact ⟨ret_bool (by rw [HR.out, hb]; rfl), b0⟩
  · have k1 : (K == 1) = false := by simpa using h1
    by_cases h2 : K = 2
    · subst h2
      have HR := hide (argB2 S ⟨VK, VN, VS⟩)
      obtain ⟨s0, hs0⟩ : ∃ s0, s0 = decide (S.size = 0) := ⟨_, rfl⟩
      have hE : S.toList.isEmpty = s0 := by
        rw [hs0]
        by_cases h : S.size = 0
        · rw [decide_eq_true h, empty_of_size h, ByteArray.toList_eq]; rfl
        · rw [isEmpty_false h, decide_eq_false h]
      rw [← hs0] at HR
      clear hs0 h1 k1
      rcases v_cases VK VN VS with ⟨rfl, rfl, rfl⟩ | kz | ⟨rfl, kz⟩ | ⟨rfl, rfl, kz⟩
      · cases hb : valB 0 0 ⟨#[]⟩
        all_goals
          go_enter Tryd.func32, Tryd.ntmps32
          go_wp2_with fail
          refine (specValOk_any _ _ _ _ hv).mono ?_
          rintro e w1 ⟨rfl, g1⟩
          rw [hb]
          have B1 : Below w.heap.size w w1 := b0.trans ((below_gn' g1).mono b0.size)
          have c1 := cell_gn g1 (boxk_cell (boxk_new w #[.int .i64 2, .string S, .int .i64 0, .int .i64 0, .string ⟨#[]⟩] 39) 1 _ rfl)
          go_wp2
          go_ret
          exact ⟨ret_bool (by rw [HR.out]; simp only [hb]; rfl), B1⟩
      · cases hb : valB VK VN VS
        all_goals
          go_enter Tryd.func32, Tryd.ntmps32
          go_wp2_with fail
          refine (specValOk_any _ _ _ _ hv).mono ?_
          rintro e w1 ⟨rfl, g1⟩
          rw [hb]
          have B1 : Below w.heap.size w w1 := b0.trans ((below_gn' g1).mono b0.size)
          have c1 := cell_gn g1 (boxk_cell (boxk_new w #[.int .i64 2, .string S, .int .i64 VK, .int .i64 VN, .string VS] 39) 1 _ rfl)
          go_wp2
          go_ret
          exact ⟨ret_bool (by rw [HR.out]; simp only [hb]; rfl), B1⟩
      · cases hb : valB 0 VN VS
        all_goals
          go_enter Tryd.func32, Tryd.ntmps32
          go_wp2_with fail
          refine (specValOk_any _ _ _ _ hv).mono ?_
          rintro e w1 ⟨rfl, g1⟩
          rw [hb]
          have B1 : Below w.heap.size w w1 := b0.trans ((below_gn' g1).mono b0.size)
          have c1 := cell_gn g1 (boxk_cell (boxk_new w #[.int .i64 2, .string S, .int .i64 0, .int .i64 VN, .string VS] 39) 1 _ rfl)
          go_wp2
          go_ret
          exact ⟨ret_bool (by rw [HR.out]; simp only [hb]; rfl), B1⟩
      · cases hb : valB 0 0 VS
        all_goals
          have ke := isEmpty_false kz
          go_enter Tryd.func32, Tryd.ntmps32
          go_wp2_with fail
          refine (specValOk_any _ _ _ _ hv).mono ?_
          rintro e w1 ⟨rfl, g1⟩
          rw [hb]
          have B1 : Below w.heap.size w w1 := b0.trans ((below_gn' g1).mono b0.size)
          have c1 := cell_gn g1 (boxk_cell (boxk_new w #[.int .i64 2, .string S, .int .i64 0, .int .i64 0, .string VS] 39) 1 _ rfl)
          go_wp2
          go_ret
          exact ⟨ret_bool (by rw [HR.out]; simp only [hb]; rfl), B1⟩
    · have k2 : (K == 2) = false := by simpa using h2
      by_cases h3 : K = 3
      · subst h3
        have HR := hide (argB3 S ⟨VK, VN, VS⟩)
        clear h1 h2 k1 k2
        by_cases hz : S.size = 0
        · obtain rfl := empty_of_size hz
          rcases v_cases VK VN VS with ⟨rfl, rfl, rfl⟩ | kz | ⟨rfl, kz⟩ | ⟨rfl, rfl, kz⟩
          · rw [zV_z] at HR
            go_enter Tryd.func32, Tryd.ntmps32
            go_wp2
            go_ret
            exact ⟨ret_bool (by rw [HR.out]; rfl), b0⟩
          · rw [(zV_K kz)] at HR
            go_enter Tryd.func32, Tryd.ntmps32
            go_wp2
            go_ret
            exact ⟨ret_bool (by rw [HR.out]; rfl), b0⟩
          · rw [(zV_N kz)] at HR
            go_enter Tryd.func32, Tryd.ntmps32
            go_wp2
            go_ret
            exact ⟨ret_bool (by rw [HR.out]; rfl), b0⟩
          · rw [(zV_S kz)] at HR
            have ke := isEmpty_false kz
            clear kz
            go_enter Tryd.func32, Tryd.ntmps32
            go_wp2
            go_ret
            exact ⟨ret_bool (by rw [HR.out]; rfl), b0⟩
        · rw [decide_eq_false hz] at HR
          have hE := isEmpty_false hz
          clear hz
          rcases v_cases VK VN VS with ⟨rfl, rfl, rfl⟩ | kz | ⟨rfl, kz⟩ | ⟨rfl, rfl, kz⟩
          · rw [zV_z] at HR
            go_enter Tryd.func32, Tryd.ntmps32
            go_wp2
            go_ret
            exact ⟨ret_bool (by rw [HR.out]; rfl), b0⟩
          · rw [(zV_K kz)] at HR
            go_enter Tryd.func32, Tryd.ntmps32
            go_wp2
            go_ret
            exact ⟨ret_bool (by rw [HR.out]; rfl), b0⟩
          · rw [(zV_N kz)] at HR
            go_enter Tryd.func32, Tryd.ntmps32
            go_wp2
            go_ret
            exact ⟨ret_bool (by rw [HR.out]; rfl), b0⟩
          · rw [(zV_S kz)] at HR
            have ke := isEmpty_false kz
            clear kz
            go_enter Tryd.func32, Tryd.ntmps32
            go_wp2
            go_ret
            exact ⟨ret_bool (by rw [HR.out]; rfl), b0⟩
      · have HR := hide (argB_no S ⟨VK, VN, VS⟩ h1 h2 h3)
        have k3 : (K == 3) = false := by simpa using h3
        clear h1 h2 h3
        rcases v_cases VK VN VS with ⟨rfl, rfl, rfl⟩ | kz | ⟨rfl, kz⟩ | ⟨rfl, rfl, kz⟩
        · go_enter Tryd.func32, Tryd.ntmps32
          go_wp2
          go_ret
          exact ⟨ret_bool HR.out.symm, b0⟩
        · go_enter Tryd.func32, Tryd.ntmps32
          go_wp2
          go_ret
          exact ⟨ret_bool HR.out.symm, b0⟩
        · go_enter Tryd.func32, Tryd.ntmps32
          go_wp2
          go_ret
          exact ⟨ret_bool HR.out.symm, b0⟩
        · have ke := isEmpty_false kz
          clear kz
          go_enter Tryd.func32, Tryd.ntmps32
          go_wp2
          go_ret
          exact ⟨ret_bool HR.out.symm, b0⟩
end Go.Proofs.YtaflokfgbmlmaacDoor
/-
  What the tested program's question on an argument that may have a value answers: mayB.
-/
namespace Go.Proofs.YtaflokfgbmlmaacDoor
open Go.RowKit
set_option linter.unusedVariables false

/-- an argument that may have a value -/
def mayB (K : Int) (S : ByteArray) (V : V3) : Bool := argB K S V && !decide (K = 3)

set_option maxRecDepth 100000 in
set_option maxHeartbeats 800000 in
theorem mayHaveVal_any (K : Int) (S : ByteArray) (VK VN : Int) (VS : ByteArray) (w : World) (hs : S.size ≤ maxLen) (hv : VS.size ≤ maxLen) :
    Calls Tryd.prog 97 #[.agg #[.int .i64 K, .string S, .int .i64 VK, .int .i64 VN, .string VS]] w fun e w' => e = .returned (.bool (mayB K S ⟨VK, VN, VS⟩)) ∧ Below w.heap.size w w' := by
  have hX := boxk_new w #[.int .i64 K, .string S, .int .i64 VK, .int .i64 VN, .string VS] 39
  have b0 := below_al w (.cells #[.int .i64 K, .string S, .int .i64 VK, .int .i64 VN, .string VS] 39)
  go_enter Tryd.func97, Tryd.ntmps97
  go_wp2_with fail
  refine (implArgOk_any K S VK VN VS _ hs hv).mono ?_
  rintro e w1 ⟨rfl, hb⟩
  have HX := hide (box_below hX hb (by simp))
  have hB : Below w.heap.size w w1 := b0.trans (hb.mono b0.size)
  clear hb hX b0
  have c0 := boxk_cell HX.out 0 _ rfl
  have hM : mayB K S ⟨VK, VN, VS⟩ = (argB K S ⟨VK, VN, VS⟩ && !decide (K = 3)) := rfl
  have HM := hide hM
  clear hM
  generalize argB K S ⟨VK, VN, VS⟩ = bb at HM
  cases bb
  · go_wp2
    go_ret
    exact ⟨by rw [HM.out]; rfl, hB⟩
  · by_cases h3 : K = 3
    · subst h3
      go_wp2
      go_ret
      exact ⟨by rw [HM.out]; rfl, hB⟩
    · have HD : Hid (decide (K = 3) = false) := by unfold Hid; simpa using h3
      have k3 : (K != 3) = true := by simpa using h3
      go_wp2
      go_ret
      exact ⟨by rw [HM.out, HD.out]; rfl, hB⟩

end Go.Proofs.YtaflokfgbmlmaacDoor
