/-
  The contracts of the laws' own markers on facts: markFact writes numbers and texts into a row of values of the calls' own and touches no other block that was there.
-/
import Derived.Test.YtaflokfgbmlmaaaBox2
import Derived.Test.YtaflokfgbmlmaaaLawFact
import Derived.Test.YtaflokfgbmlmaaaKeep6
import Derived.Laws.IdiomStrings
namespace Go.Proofs.Ytaflokfgbmlmaaa
open Go.RowKit
set_option linter.unusedVariables false

/-- the bytes of a mark's digits -/
def markL (fuel n : Nat) (r : List UInt8) : List UInt8 := match fuel with
  | 0 => r
  | f + 1 => if n = 0 then r else markL f (n / 10) (UInt8.ofNat (48 + n % 10) :: r)
def markT (k : Nat) : ByteArray := if k = 0 then ⟨#[109, 48]⟩ else ⟨#[109]⟩ ++ ⟨(markL 20 k []).toArray⟩
theorem markL_stop (n : Nat) (r : List UInt8) : ∀ f, n = 0 → markL f n r = r
  | 0, _ => rfl
  | f + 1, h => by unfold markL; rw [if_pos h]
theorem markL_step {f n : Nat} {r : List UInt8} (h : n ≠ 0) : markL (f + 1) n r = markL f (n / 10) (UInt8.ofNat (48 + n % 10) :: r) := by
  show (if n = 0 then _ else _) = _; rw [if_neg h]

theorem conv_1 (q : Nat) (c : UInt8) (d : Int) (hd : d = (c.toNat : Int)) (W : World) (h : W.cell? ⟨q, 0, none⟩ = some (.int .u8 d)) :
    (convert 108 9 (.slice (some ⟨q, 0, none⟩) 1 1)).run Try.prog W = .ok (.string ⟨#[c]⟩) W := by
  subst hd
  have := run_convert_bytes_back (P := Try.prog) W 108 9 5 ⟨q, 0, none⟩ 1 [c] Try.underlying108 Try.underlying5 Try.underlying9 (fun j hj => by
    obtain rfl : j = 0 := by simpa using hj
    rw [Addr.add_lit, Nat.add_zero, h]
    simp)
  simpa using this
theorem cell_1 (w : World) (c : Value) (T : TypeId) : (w.alloc (.cells #[c] T)).cell? ⟨w.heap.size, 0, none⟩ = some c := by
  rw [cell_of_row _ w.heap.size 0 _ T (0, 0) (heap_alloc_new w _)]; rfl
theorem app_1 (c : UInt8) (s : ByteArray) : ((⟨#[c]⟩ : ByteArray) ++ s).data.toList = c :: s.data.toList ∧ ((⟨#[c]⟩ : ByteArray) ++ s).size = s.size + 1 := by
  constructor
  · simp
  · rw [ByteArray.size_append]; show 1 + s.size = _; omega

set_option maxRecDepth 100000 in
set_option maxHeartbeats 1600000 in
theorem markText_any (k : Nat) (w : World) (hk : k ≤ 1000000000) :
    Calls Try.prog 45 #[.int .i64 (k : Int)] w fun e w' => e = .returned (.string (markT k)) ∧ Below w.heap.size w w' := by
  by_cases h0 : k = 0
  · subst h0
    go_enter Try.func45, Try.ntmps45
    go_wp2
    go_ret
    exact ⟨rfl, Below.refl _ _⟩
  · have h1 : ¬ ((k : Int) ≤ 0) := by omega
    have HT : Hid (markT k = ⟨#[109]⟩ ++ ⟨(markL 20 k []).toArray⟩) := by unfold Hid markT; rw [if_neg h0]
    go_enter Try.func45, Try.ntmps45
    go_wp2
    go_loopw [0, 3] (fun i s wr => ∃ (m f : Nat) (t : ByteArray), i = .int .i64 (m : Int) ∧ s = .string t ∧ m ≤ 1000000000 ∧ m < 10 ^ f ∧ f ≤ 20 ∧ t.size ≤ 40 - f ∧ markL f m t.data.toList = markL 20 k [] ∧ Below w.heap.size w wr) (fun i _ _ => (intOf i).toNat)
    case atStart => exact ⟨k, 20, ⟨#[]⟩, rfl, rfl, hk, by omega, Nat.le_refl _, by show (0 : Nat) ≤ 20; omega, rfl, Below.refl _ _⟩
    case round =>
      obtain ⟨m, f, t, rfl, rfl, hm, hf, hf2, hr, hl, hbel⟩ := hrel
      by_cases hlt : m = 0
      · have HL : Hid (t = ⟨(markL 20 k []).toArray⟩) := by
          have := (markL_stop m t.data.toList f hlt).symm.trans hl
          apply ByteArray.ext
          rw [← this]
        have h2 : ¬ ((0 : Int) < (m : Int)) := by omega
        clear hl
        go_wp2
        go_ret
        exact ⟨by rw [HT.out, ← HL.out]; rfl, hbel⟩
      · obtain ⟨f', rfl⟩ : ∃ f', f = f' + 1 := ⟨f - 1, by cases f with | zero => simp at hf; omega | succ f => rfl⟩
        have HL := hide ((markL_step hlt).symm.trans hl)
        have h2 : (0 : Int) < (m : Int) := by omega
        have hq : m / 10 < 10 ^ f' := by rw [Nat.pow_succ] at hf; exact Nat.div_lt_of_lt_mul (by omega)
        have HQ := hide hq
        clear hl hf hq
        obtain ⟨c, hc1, hc2⟩ : ∃ c : UInt8, 48 + (m : Int) % 10 = (c.toNat : Int) ∧ UInt8.ofNat (48 + m % 10) = c := ⟨_, by simp; omega, rfl⟩
        rw [hc2] at HL
        have hcv := conv_1 wr.heap.size c (48 + (m : Int) % 10) hc1 _ (cell_1 wr (.int .u8 (48 + (m : Int) % 10)) 5)
        obtain ⟨a1, a2⟩ := app_1 c t
        have HA := hide a1
        have HB := hide (hbel.alloc hbel.size (.cells #[.int .u8 (48 + (m : Int) % 10)] 5))
        have hts : t.size ≤ 40 := by omega
        clear hc1 hc2 a1
        go_wp2
        go_roundw
        case rel => exact ⟨m / 10, f', _, by go_num, rfl, by omega, HQ.out, by omega, by rw [a2]; omega, by rw [HA.out]; exact HL.out, HB.out⟩
        case measure => simp [intOf]; omega

theorem markText_i (x : Int) (k : Nat) (w : World) (hx : x = (k : Int)) (hk : k ≤ 1000000000) :
    Calls Try.prog 45 #[.int .i64 x] w fun e w' => e = .returned (.string (markT k)) ∧ Below w.heap.size w w' := by subst hx; exact markText_any k w hk
/-- the row's k-th value is marked -/
def markV (k : Nat) : V3 := ⟨(k : Int), ((k + 1 : Nat) : Int), markT (k + 2)⟩
def marksV (k n : Nat) : List V3 := (List.range n).map fun i => markV (k + 3 * i)
theorem marksV_length (k n : Nat) : (marksV k n).length = n := by simp [marksV]
theorem marksV_succ (k n : Nat) : marksV k (n + 1) = marksV k n ++ [markV (k + 3 * n)] := by simp [marksV, List.range_succ]
def partM (L : List V3) (k j : Nat) : List V3 := marksV k j ++ L.drop j
theorem partM_end {L : List V3} {k j : Nat} (h : L.length ≤ j) : partM L k j = marksV k j := by unfold partM; rw [List.drop_eq_nil_of_le h, List.append_nil]
theorem partM_length {L : List V3} {k j : Nat} (h : j ≤ L.length) : (partM L k j).length = L.length := by unfold partM; rw [List.length_append, marksV_length, List.length_drop]; omega
theorem partM_set {L : List V3} {k j : Nat} (h : j < L.length) :
    (((cells3 (partM L k j)).set (j * 3) (.int .i64 (markV (k + 3 * j)).K)).set (j * 3 + 1) (.int .i64 (markV (k + 3 * j)).N)).set (j * 3 + 2) (.string (markV (k + 3 * j)).S) = cells3 (partM L k (j + 1)) := by
  have h1 : partM L k j = marksV k j ++ L[j] :: L.drop (j + 1) := by unfold partM; rw [List.drop_eq_getElem_cons h]
  have h2 : partM L k (j + 1) = marksV k j ++ markV (k + 3 * j) :: L.drop (j + 1) := by unfold partM; rw [marksV_succ, List.append_assoc]; rfl
  have := cells3_set (marksV k j) (L.drop (j + 1)) (markV (k + 3 * j)) L[j]
  rw [marksV_length] at this
  rw [h1, h2]; exact this

end Go.Proofs.Ytaflokfgbmlmaaa
