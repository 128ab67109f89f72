/-
  Texts of this claim joined into one: MarkF, VEq, StrRow, VarsP, ValE, Clone, VarsOf, PosP, VarsQ, VarsM, PosS, DrawRv, Known, PosI, LawExprS, LawAct, DrawAcs.
-/
import Derived.Test.YtfgigcdfmkfkjaaJoined1
import Derived.Test.YtfgigcdfmkfkjaaJoined2
import Derived.Laws.IdiomStrings
import Derived.Laws.Strings
import Derived.Deep.RegionHeld3
import Derived.Deep.QuietTactic
import Derived.BigQuiet
import Derived.Handy
import Derived.Deep.RegionWith
import Derived.Laws.StructEq
import Derived.Test.YtfgigcdfmkfkjaaShelf
import Derived.Deep.AppendLies
import Derived.OwnWalk
import Derived.Deep.RegionLaw
/-
  The contracts of the laws' own markers on facts: markFact writes numbers and texts into a row of values of the calls' own and touches no other block that was there.
-/
namespace Go.Proofs.Ytfgigcdfmkfkjaa
open Go.RowKit
set_option linter.unusedVariables false

/-- the bytes of a mark's digits -/
def markL (fuel n : Nat) (r : List UInt8) : List UInt8 := match fuel with
  | 0 => r
  | f + 1 => if n = 0 then r else markL f (n / 10) (UInt8.ofNat (48 + n % 10) :: r)
def markT (k : Nat) : ByteArray := if k = 0 then ⟨#[109, 48]⟩ else ⟨#[109]⟩ ++ ⟨(markL 20 k []).toArray⟩
theorem markL_stop (n : Nat) (r : List UInt8) : ∀ f, n = 0 → markL f n r = r
  | 0, _ => rfl
  | f + 1, h => by unfold markL; rw [if_pos h]
theorem markL_step {f n : Nat} {r : List UInt8} (h : n ≠ 0) : markL (f + 1) n r = markL f (n / 10) (UInt8.ofNat (48 + n % 10) :: r) := by
  show (if n = 0 then _ else _) = _; rw [if_neg h]

theorem conv_1 (q : Nat) (c : UInt8) (d : Int) (hd : d = (c.toNat : Int)) (W : World) (h : W.cell? ⟨q, 0, none⟩ = some (.int .u8 d)) :
    (convert 69 9 (.slice (some ⟨q, 0, none⟩) 1 1)).run Try.prog W = .ok (.string ⟨#[c]⟩) W := by
  subst hd
  have := run_convert_bytes_back (P := Try.prog) W 69 9 5 ⟨q, 0, none⟩ 1 [c] Try.underlying69 Try.underlying5 Try.underlying9 (fun j hj => by
    obtain rfl : j = 0 := by simpa using hj
    rw [Addr.add_lit, Nat.add_zero, h]
    simp)
  simpa using this
theorem cell_1 (w : World) (c : Value) (T : TypeId) : (w.alloc (.cells #[c] T)).cell? ⟨w.heap.size, 0, none⟩ = some c := by
  rw [cell_of_row _ w.heap.size 0 _ T (0, 0) (heap_alloc_new w _)]; rfl
theorem app_1 (c : UInt8) (s : ByteArray) : ((⟨#[c]⟩ : ByteArray) ++ s).data.toList = c :: s.data.toList ∧ ((⟨#[c]⟩ : ByteArray) ++ s).size = s.size + 1 := by
  constructor
  · simp
  · rw [ByteArray.size_append]; show 1 + s.size = _; omega

set_option maxRecDepth 100000 in
set_option maxHeartbeats 1600000 in
theorem markText_any (k : Nat) (w : World) (hk : k ≤ 1000000000) :
    Calls Try.prog 73 #[.int .i64 (k : Int)] w fun e w' => e = .returned (.string (markT k)) ∧ Below w.heap.size w w' := by
  by_cases h0 : k = 0
  · subst h0
    go_enter Try.func73, Try.ntmps73
    go_wp2
    go_ret
    exact ⟨rfl, Below.refl _ _⟩
  · have h1 : ¬ ((k : Int) ≤ 0) := by omega
    have HT : Hid (markT k = ⟨#[109]⟩ ++ ⟨(markL 20 k []).toArray⟩) := by unfold Hid markT; rw [if_neg h0]
    go_enter Try.func73, Try.ntmps73
    go_wp2
    go_loopw [0, 3] (fun i s wr => ∃ (m f : Nat) (t : ByteArray), i = .int .i64 (m : Int) ∧ s = .string t ∧ m ≤ 1000000000 ∧ m < 10 ^ f ∧ f ≤ 20 ∧ t.size ≤ 40 - f ∧ markL f m t.data.toList = markL 20 k [] ∧ Below w.heap.size w wr) (fun i _ _ => (intOf i).toNat)
    case atStart => exact ⟨k, 20, ⟨#[]⟩, rfl, rfl, hk, by omega, Nat.le_refl _, by show (0 : Nat) ≤ 20; omega, rfl, Below.refl _ _⟩
    case round =>
      obtain ⟨m, f, t, rfl, rfl, hm, hf, hf2, hr, hl, hbel⟩ := hrel
      by_cases hlt : m = 0
      · have HL : Hid (t = ⟨(markL 20 k []).toArray⟩) := by
          have := (markL_stop m t.data.toList f hlt).symm.trans hl
          apply ByteArray.ext
          rw [← this]
        have h2 : ¬ ((0 : Int) < (m : Int)) := by omega
        clear hl
        go_wp2
        go_ret
        exact ⟨by rw [HT.out, ← HL.out]; rfl, hbel⟩
      · obtain ⟨f', rfl⟩ : ∃ f', f = f' + 1 := ⟨f - 1, by cases f with | zero => simp at hf; omega | succ f => rfl⟩
        have HL := hide ((markL_step hlt).symm.trans hl)
        have h2 : (0 : Int) < (m : Int) := by omega
        have hq : m / 10 < 10 ^ f' := by rw [Nat.pow_succ] at hf; exact Nat.div_lt_of_lt_mul (by omega)
        have HQ := hide hq
        clear hl hf hq
        obtain ⟨c, hc1, hc2⟩ : ∃ c : UInt8, 48 + (m : Int) % 10 = (c.toNat : Int) ∧ UInt8.ofNat (48 + m % 10) = c := ⟨_, by simp; omega, rfl⟩
        rw [hc2] at HL
        have hcv := conv_1 wr.heap.size c (48 + (m : Int) % 10) hc1 _ (cell_1 wr (.int .u8 (48 + (m : Int) % 10)) 5)
        obtain ⟨a1, a2⟩ := app_1 c t
        have HA := hide a1
        have HB := hide (hbel.alloc hbel.size (.cells #[.int .u8 (48 + (m : Int) % 10)] 5))
        have hts : t.size ≤ 40 := by omega
        clear hc1 hc2 a1
        go_wp2
        go_roundw
        case rel => exact ⟨m / 10, f', _, by go_num, rfl, by omega, HQ.out, by omega, by rw [a2]; omega, by rw [HA.out]; exact HL.out, HB.out⟩
        case measure => simp [intOf]; omega

theorem markText_i (x : Int) (k : Nat) (w : World) (hx : x = (k : Int)) (hk : k ≤ 1000000000) :
    Calls Try.prog 73 #[.int .i64 x] w fun e w' => e = .returned (.string (markT k)) ∧ Below w.heap.size w w' := by subst hx; exact markText_any k w hk
/-- the row's k-th value is marked -/
def markV (k : Nat) : V3 := ⟨(k : Int), ((k + 1 : Nat) : Int), markT (k + 2)⟩
def marksV (k n : Nat) : List V3 := (List.range n).map fun i => markV (k + 3 * i)
theorem marksV_length (k n : Nat) : (marksV k n).length = n := by simp [marksV]
theorem marksV_succ (k n : Nat) : marksV k (n + 1) = marksV k n ++ [markV (k + 3 * n)] := by simp [marksV, List.range_succ]
def partM (L : List V3) (k j : Nat) : List V3 := marksV k j ++ L.drop j
theorem partM_end {L : List V3} {k j : Nat} (h : L.length ≤ j) : partM L k j = marksV k j := by unfold partM; rw [List.drop_eq_nil_of_le h, List.append_nil]
theorem partM_length {L : List V3} {k j : Nat} (h : j ≤ L.length) : (partM L k j).length = L.length := by unfold partM; rw [List.length_append, marksV_length, List.length_drop]; omega
theorem partM_set {L : List V3} {k j : Nat} (h : j < L.length) :
    (((cells3 (partM L k j)).set (j * 3) (.int .i64 (markV (k + 3 * j)).K)).set (j * 3 + 1) (.int .i64 (markV (k + 3 * j)).N)).set (j * 3 + 2) (.string (markV (k + 3 * j)).S) = cells3 (partM L k (j + 1)) := by
  have h1 : partM L k j = marksV k j ++ L[j] :: L.drop (j + 1) := by unfold partM; rw [List.drop_eq_getElem_cons h]
  have h2 : partM L k (j + 1) = marksV k j ++ markV (k + 3 * j) :: L.drop (j + 1) := by unfold partM; rw [marksV_succ, List.append_assoc]; rfl
  have := cells3_set (marksV k j) (L.drop (j + 1)) (markV (k + 3 * j)) L[j]
  rw [marksV_length] at this
  rw [h1, h2]; exact this

set_option maxRecDepth 100000 in
set_option maxHeartbeats 1600000 in
theorem markValS_any (g cap k0 : Nat) (L : List V3) (w : World) (hown : OwnV w g cap L) (hn : L.length ≤ 1048580) (hk : k0 ≤ 33554500) :
    Calls Try.prog 110 #[.slice (some ⟨g, 0, none⟩) L.length cap, .int .i64 (k0 : Int)] w fun e w' =>
      e = .returned (.int .i64 ((k0 + 3 * L.length : Nat) : Int)) ∧ OwnV w' g cap (marksV k0 L.length) ∧ (∀ q, q < w.heap.size → q ≠ g → w'.heap[q]? = w.heap[q]?) ∧ Below g w w' := by
  have hg := hown.lt
  obtain ⟨n, hN⟩ : ∃ n, n = L.length := ⟨_, rfl⟩
  have hown0 : w.ownsRow 0 105 3 (.slice (some ⟨g, 0, none⟩) n cap) n (cells3 L) := by rw [hN]; exact hown
  rw [← hN] at hn ⊢
  have HN := hide hN
  have HO := hide hown0
  clear hN hown hown0
  have hfin : ∀ {W : World}, W.ownsRow 0 105 3 (.slice (some ⟨g, 0, none⟩) n cap) n (cells3 (marksV k0 n)) → OwnV W g cap (marksV k0 n) := fun h => OwnV.of h
  have HFin := hide (fun W => @hfin W)
  clear hfin
  go_enter Try.func110, Try.ntmps110
  go_wp2
  go_loopw [1, 5] (fun kk i wr => ∃ j : Nat, j ≤ n ∧ i = .int .i64 j ∧ (∃ m : Nat, m = k0 + 3 * j ∧ kk = .int .i64 (m : Int)) ∧ wr.ownsRow 0 105 3 (.slice (some ⟨g, 0, none⟩) n cap) n (cells3 (partM L k0 j)) ∧ (∀ q, q < w.heap.size → q ≠ g → wr.heap[q]? = w.heap[q]?) ∧ Below g w wr) (fun _ i _ => n - (intOf i).toNat)
  case atStart => exact ⟨0, Nat.zero_le _, rfl, ⟨k0, rfl, rfl⟩, HO.out, fun q _ _ => rfl, Below.refl _ _⟩
  case round =>
    obtain ⟨j, hj, rfl, ⟨m, hm, rfl⟩, hown, hoth, hbel⟩ := hrel
    have HM := hide hm
    have hm2 : m ≤ 40000000 := by omega
    clear hm
    have HOth := hide hoth
    clear hoth
    by_cases hlt : j < n
    · have hlen : (cells3 (partM L k0 j)).length = n * 3 := by rw [cells3_length, partM_length (by rw [← HN.out]; omega), ← HN.out]
      have hmem : ∀ i, i < 3 → ∃ u, wr.cell? ⟨g, j * 3 + i, none⟩ = some u := fun i hi => by
        rw [hown.cellAt (j * 3 + i) (by omega), List.getElem?_eq_getElem (by omega)]
        exact ⟨_, rfl⟩
      obtain ⟨u0, m0⟩ := hmem 0 (by omega)
      obtain ⟨u1, m1⟩ := hmem 1 (by omega)
      rw [Nat.add_zero] at m0
      have f0 := hown.frozenAt (j * 3)
      have f1 := hown.frozenAt (j * 3 + 1)
      clear hmem hlen
      have hs1 := hown.stored (j * 3) (.int .i64 (m : Int))
      have hs2 := hs1.1.stored (j * 3 + 1) (.int .i64 ((m : Int) + 1))
      have HS2 := hide hs2.1
      have HB2 : Hid (Below g w ((wr.setCell ⟨g, j * 3, none⟩ (.int .i64 (m : Int))).setCell ⟨g, j * 3 + 1, none⟩ (.int .i64 ((m : Int) + 1)))) := (hbel.setCell (Nat.le_refl _) _).setCell (Nat.le_refl _) _
      have HO2 : Hid (∀ q, q < w.heap.size → q ≠ g → ((wr.setCell ⟨g, j * 3, none⟩ (.int .i64 (m : Int))).setCell ⟨g, j * 3 + 1, none⟩ (.int .i64 ((m : Int) + 1))).heap[q]? = w.heap[q]?) := fun q hq hne => by
        have hq2 : q < wr.heap.size := Nat.lt_of_lt_of_le hq hbel.size
        rw [hs2.2.block q (Nat.lt_of_lt_of_le hq2 hs1.2.size) (by simp; omega), hs1.2.block q hq2 (by simp; omega)]
        exact HOth.out q hq hne
      clear hs1 hs2 hbel hown HOth
      go_wp2_with fail
      refine (markText_i ((m : Int) + 1 + 1) (m + 2) _ (by omega) (by omega)).mono ?_
      generalize (wr.setCell ⟨g, j * 3, none⟩ (.int .i64 (m : Int))).setCell ⟨g, j * 3 + 1, none⟩ (.int .i64 ((m : Int) + 1)) = w2 at HS2 HB2 HO2
      rintro e w3 ⟨rfl, hb3⟩
      have ho3 := ownsRow_below HS2.out hb3
      have B3 : Below g w w3 := HB2.out.trans (hb3.mono (Nat.le_trans (Nat.le_of_lt hg) HB2.out.size))
      have HO3 : Hid (∀ q, q < w.heap.size → q ≠ g → w3.heap[q]? = w.heap[q]?) := fun q hq hne => by
        rw [hb3.block q (Nat.lt_of_lt_of_le hq HB2.out.size)]; exact HO2.out q hq hne
      have hlen : (((cells3 (partM L k0 j)).set (j * 3) (.int .i64 (m : Int))).set (j * 3 + 1) (.int .i64 ((m : Int) + 1))).length = n * 3 := by
        rw [List.length_set, List.length_set, cells3_length, partM_length (by rw [← HN.out]; omega), ← HN.out]
      obtain ⟨u2, m2⟩ : ∃ u, w3.cell? ⟨g, j * 3 + 2, none⟩ = some u := by
        rw [ho3.cellAt (j * 3 + 2) (by omega), List.getElem?_eq_getElem (by omega)]
        exact ⟨_, rfl⟩
      have f2 := ho3.frozenAt (j * 3 + 2)
      have hs3 := ho3.stored (j * 3 + 2) (.string (markT (m + 2)))
      have hset := partM_set (L := L) (k := k0) (j := j) (by rw [← HN.out]; exact hlt)
      have e1 : (markV (k0 + 3 * j)).K = (m : Int) := by rw [← HM.out]; rfl
      have e2 : (markV (k0 + 3 * j)).N = (m : Int) + 1 := by rw [← HM.out]; show ((m + 1 : Nat) : Int) = _; omega
      have e3 : (markV (k0 + 3 * j)).S = markT (m + 2) := by rw [← HM.out]; rfl
      rw [e1, e2, e3] at hset
      have HS3 : Hid ((w3.setCell ⟨g, j * 3 + 2, none⟩ (.string (markT (m + 2)))).ownsRow 0 105 3 (.slice (some ⟨g, 0, none⟩) n cap) n (cells3 (partM L k0 (j + 1)))) := by
        have := hs3.1
        rw [hset] at this
        exact this
      have HB3 : Hid (Below g w (w3.setCell ⟨g, j * 3 + 2, none⟩ (.string (markT (m + 2))))) := B3.setCell (Nat.le_refl _) _
      have HO4 : Hid (∀ q, q < w.heap.size → q ≠ g → (w3.setCell ⟨g, j * 3 + 2, none⟩ (.string (markT (m + 2)))).heap[q]? = w.heap[q]?) := fun q hq hne => by
        rw [hs3.2.block q (Nat.lt_of_lt_of_le hq B3.size) (by simp; omega)]; exact HO3.out q hq hne
      clear hs3 hset e1 e2 e3 hlen ho3 B3 hb3 m0 m1 f0 f1
      generalize markT (m + 2) = tx at HS3 HB3 HO4 ⊢
      go_wp2
      go_roundw
      case rel => exact ⟨j + 1, by omega, by go_num, ⟨m + 3, by rw [HM.out]; omega, by go_num⟩, HS3.out, HO4.out, HB3.out⟩
      case measure => simp [intOf]; omega
    · obtain rfl : j = n := by omega
      rw [partM_end (by rw [← HN.out]; exact Nat.le_refl _)] at hown
      have HF := hide (HFin.out wr hown)
      clear hown
      go_wp2
      go_ret
      exact ⟨by rw [HM.out]; rfl, HF.out, HOth.out, hbel⟩

end Go.Proofs.Ytfgigcdfmkfkjaa
/-
  When two values are the same, plainly.
-/
namespace Go.Proofs.Ytfgigcdfmkfkjaa
open Go.RowKit
set_option linter.unusedVariables false

theorem toList_inj {S S' : ByteArray} (h : S.toList = S'.toList) : S = S' := by
  rw [ByteArray.toList_eq, ByteArray.toList_eq] at h
  cases S; cases S'
  simp at h
  rw [h]
theorem v3_cases (v u : V3) : v = u ∨ (v ≠ u ∧ ((v.K == u.K) = false ∨ ((v.K == u.K) = true ∧ (v.N == u.N) = false) ∨ ((v.K == u.K) = true ∧ (v.N == u.N) = true ∧ (v.S.toList == u.S.toList) = false))) := by
  by_cases h1 : v.K = u.K
  · by_cases h2 : v.N = u.N
    · by_cases h3 : v.S.toList = u.S.toList
      · left; exact V3.ext' h1 h2 (toList_inj h3)
      · right
        exact ⟨fun e => h3 (by rw [e]), .inr (.inr ⟨by simpa using h1, by simpa using h2, by simpa using h3⟩)⟩
    · right
      exact ⟨fun e => h2 (by rw [e]), .inr (.inl ⟨by simpa using h1, by simpa using h2⟩)⟩
  · right
    exact ⟨fun e => h1 (by rw [e]), .inl (by simpa using h1)⟩
instance : DecidableEq V3 := fun a b => by
  by_cases h : a.K = b.K ∧ a.N = b.N ∧ a.S = b.S
  · exact .isTrue (V3.ext' h.1 h.2.1 h.2.2)
  · exact .isFalse (fun e => h (by rw [e]; exact ⟨rfl, rfl, rfl⟩))

end Go.Proofs.Ytfgigcdfmkfkjaa
/-
  Rows of texts: what a slice of them reads as (RdS), whether one is among them, and the contracts of the laws' own helpers on them.
-/
namespace Go.Proofs.Ytfgigcdfmkfkjaa
open Go.RowKit
set_option linter.unusedVariables false

def valsS (L : List ByteArray) : List Value := L.map Value.string
def sAt (L : List ByteArray) (i : Nat) : ByteArray := L.getD i ⟨#[]⟩
theorem sAt_in {L : List ByteArray} {i : Nat} (h : i < L.length) : sAt L i = L[i] := by simp [sAt, List.getD, h]
theorem valsS_length (L : List ByteArray) : (valsS L).length = L.length := by simp [valsS]
theorem valsS_get {L : List ByteArray} {i : Nat} (h : i < L.length) : (valsS L)[i]? = some (.string (sAt L i)) := by rw [sAt_in h]; simp [valsS, h]
theorem valsS_snoc (L : List ByteArray) (x : ByteArray) : valsS L ++ [.string x] = valsS (L ++ [x]) := by simp [valsS]
def RdS (w : World) (a : Option Addr) (L : List ByteArray) : Prop := ∀ i, i < L.length → ∃ b off, a = some ⟨b, off, none⟩ ∧ w.cell? ⟨b, off + i, none⟩ = some (.string (sAt L i))
theorem RdS.open {w : World} {a : Option Addr} {L : List ByteArray} (h : RdS w a L) (hp : 0 < L.length) :
    ∃ b off, a = some ⟨b, off, none⟩ ∧ b < w.heap.size ∧ ∀ i, i < L.length → w.cell? ⟨b, off + i, none⟩ = some (.string (sAt L i)) := by
  obtain ⟨b, off, rfl, h0⟩ := h 0 hp
  refine ⟨b, off, rfl, World.block_lt_of_cell? w _ h0, fun i hi => ?_⟩
  obtain ⟨b2, off2, e, h1⟩ := h i hi
  simp only [Option.some.injEq, Addr.mk.injEq] at e
  rw [e.1, e.2.1]; exact h1
theorem RdS.below {w w' : World} {a : Option Addr} {L : List ByteArray} (h : RdS w a L) (hb : Below w.heap.size w w') : RdS w' a L := by
  intro i hi
  obtain ⟨b, off, e, h0⟩ := h i hi
  exact ⟨b, off, e, by rw [hb.cell (World.block_lt_of_cell? w _ h0)]; exact h0⟩
theorem rdS_owns {w : World} {base n : Nat} {T : TypeId} {v : Value} {L : List ByteArray} (h : w.ownsRow base T 1 v n (valsS L)) :
    ∃ a cap, v = .slice a L.length cap ∧ RdS w a L ∧ n = L.length := by
  have hn : n = L.length := by have := h.1; rw [valsS_length] at this; omega
  subst hn
  rcases h.2 with ⟨rfl, h0⟩ | ⟨g, cap, cur, rfl, hb, hg, hnc, hcm, hsz, htake⟩
  · exact ⟨none, 0, by rw [h0], fun i hi => by omega, rfl⟩
  · refine ⟨_, cap, rfl, fun i hi => ⟨g, 0, rfl, ?_⟩, rfl⟩
    have e0 := h.cellAt i (by omega)
    rw [Nat.zero_add, e0]; exact valsS_get hi
theorem rdS_of {w : World} {base n m c : Nat} {T : TypeId} {a : Option Addr} {L : List ByteArray} (h : w.ownsRow base T 1 (.slice a m c) n (valsS L)) : RdS w a L := by
  obtain ⟨a', c', e, hr, -⟩ := rdS_owns h
  simp only [Value.slice.injEq] at e
  rw [e.1]; exact hr
theorem below_dnS {w u : World} {n : Nat} (k : Below (w.drewN n).heap.size (w.drewN n) u) : Below w.heap.size w u :=
  (show Below w.heap.size w (w.drewN n) from ⟨rfl, rfl, rfl, Nat.le_refl _, fun _ _ => rfl⟩).trans k
theorem beq_neS {a b : ByteArray} (h : a ≠ b) : (a.toList == b.toList) = false := by
  simp only [beq_eq_false_iff_ne, ne_eq]
  exact fun e => h (toList_inj e)
def hasS (L : List ByteArray) (s : ByteArray) : Bool := L.any fun x => decide (x = s)
theorem hasS_yes {L : List ByteArray} {s : ByteArray} {k : Nat} (hk : k < L.length) (h : sAt L k = s) : hasS L s = true := by
  rw [sAt_in hk] at h
  unfold hasS
  rw [List.any_eq_true]
  exact ⟨L[k], List.getElem_mem hk, by simpa using h⟩
theorem hasS_no {L : List ByteArray} {s : ByteArray} (h : ∀ j, j < L.length → sAt L j ≠ s) : hasS L s = false := by
  rw [Bool.eq_false_iff]
  intro ht
  unfold hasS at ht
  rw [List.any_eq_true] at ht
  obtain ⟨x, hx, e⟩ := ht
  obtain ⟨j, hj, e2⟩ := List.getElem_of_mem hx
  exact h j hj (by rw [sAt_in hj, e2]; simpa using e)
theorem hasS_mem {L : List ByteArray} {s : ByteArray} : hasS L s = true ↔ s ∈ L := by
  unfold hasS
  rw [List.any_eq_true]
  exact ⟨fun ⟨x, hx, e⟩ => by rw [← show x = s by simpa using e]; exact hx, fun h => ⟨s, h, by simp⟩⟩

set_option maxRecDepth 100000 in
set_option maxHeartbeats 1600000 in
theorem l6Has_any (a : Option Addr) (n cap : Nat) (L : List ByteArray) (s : ByteArray) (w : World) (hz : L.length = n) (hr : RdS w a L) (hn : n ≤ 1048580) :
    Calls Try.prog 84 #[.slice a n cap, .string s] w fun e w' => e = .returned (.bool (hasS L s)) ∧ w' = w := by
  have HZ := hide hz
  clear hz
  go_enter Try.func84, Try.ntmps84
  go_wp2
  go_loop [5] (fun i => ∃ (k : Nat), k ≤ n ∧ i = .int .i64 k ∧ ∀ j, j < k → sAt L j ≠ s) (fun i => n - (intOf i).toNat)
  case atStart => exact ⟨0, Nat.zero_le _, rfl, fun j hj => absurd hj (Nat.not_lt_zero _)⟩
  case round =>
    obtain ⟨k, hk, rfl, hall⟩ := hrel
    have HA := hide hall
    clear hall
    by_cases hlt : k < n
    · obtain ⟨b, off, hab, hbw, hc⟩ := hr.open (by rw [HZ.out]; omega)
      have c0 := hc k (by rw [HZ.out]; exact hlt)
      clear hc
      subst hab
      by_cases he : sAt L k = s
      · have HV := hide (hasS_yes (by rw [HZ.out]; exact hlt) he)
        rw [he] at c0
        have k1 : (s.toList == s.toList) = true := by simp
        clear he
        go_wp2
        go_ret
        exact ⟨ret_bool HV.out.symm, rfl⟩
      · have k1 := beq_neS he
        have HE := hide he
        clear he
        go_wp2
        go_round
        case rel => exact ⟨k + 1, by omega, by go_num, fun j hj => by
            by_cases hjk : j = k
            · rw [hjk]; exact HE.out
            · exact HA.out j (by omega)⟩
        case measure => simp [intOf]; omega
    · have HV := hide (hasS_no (fun j hj => HA.out j (by rw [HZ.out] at hj; omega)))
      go_wp2
      go_ret
      exact ⟨ret_bool HV.out.symm, rfl⟩

set_option maxRecDepth 100000 in
set_option maxHeartbeats 1600000 in
theorem indexS_any (a : Option Addr) (n cap : Nat) (L : List ByteArray) (s : ByteArray) (w : World) (hz : L.length = n) (hr : RdS w a L) (hn : n ≤ 1048580) :
    Calls Try.prog 149 #[.slice a n cap, .string s] w fun e w' => (∃ r : Int, e = .returned (.int .i64 r) ∧ decide (0 ≤ r) = hasS L s) ∧ w' = w := by
  have HZ := hide hz
  clear hz
  go_enter Try.func149, Try.ntmps149
  go_wp2
  go_loop [8] (fun i => ∃ (k : Nat), k ≤ n ∧ i = .int .i64 k ∧ ∀ j, j < k → sAt L j ≠ s) (fun i => n - (intOf i).toNat)
  case atStart => exact ⟨0, Nat.zero_le _, rfl, fun j hj => absurd hj (Nat.not_lt_zero _)⟩
  case round =>
    obtain ⟨k, hk, rfl, hall⟩ := hrel
    have HA := hide hall
    clear hall
    by_cases hlt : k < n
    · obtain ⟨b, off, hab, hbw, hc⟩ := hr.open (by rw [HZ.out]; omega)
      have c0 := hc k (by rw [HZ.out]; exact hlt)
      clear hc
      subst hab
      by_cases he : sAt L k = s
      · have HV := hide (hasS_yes (by rw [HZ.out]; exact hlt) he)
        rw [he] at c0
        have k1 : (s.toList == s.toList) = true := by simp
        clear he
        go_wp2
        go_ret
        exact ⟨⟨k, rfl, by rw [HV.out]; simp⟩, rfl⟩
      · have k1 := beq_neS (Ne.symm he)
        have HE := hide he
        clear he
        go_wp2
        go_round
        case rel => exact ⟨k + 1, by omega, by go_num, fun j hj => by
            by_cases hjk : j = k
            · rw [hjk]; exact HE.out
            · exact HA.out j (by omega)⟩
        case measure => simp [intOf]; omega
    · have HV := hide (hasS_no (fun j hj => HA.out j (by rw [HZ.out] at hj; omega)))
      go_wp2
      go_ret
      exact ⟨⟨-1, rfl, by rw [HV.out]; rfl⟩, rfl⟩

set_option maxRecDepth 100000 in
theorem containsS_any (a : Option Addr) (n cap : Nat) (L : List ByteArray) (s : ByteArray) (w : World) (hz : L.length = n) (hr : RdS w a L) (hn : n ≤ 1048580) :
    Calls Try.prog 120 #[.slice a n cap, .string s] w fun e w' => e = .returned (.bool (hasS L s)) ∧ w' = w := by
  go_enter Try.func120, Try.ntmps120
  go_wp2_with fail
  refine (indexS_any a n cap L s _ hz hr hn).mono ?_
  rintro e w1 ⟨⟨r, rfl, h⟩, rfl⟩
  have H := hide h
  clear h
  go_wp2
  go_ret
  exact ⟨ret_bool H.out, rfl⟩

def marksS (k n : Nat) : List ByteArray := (List.range n).map fun i => markT (k + i)
theorem marksS_length (k n : Nat) : (marksS k n).length = n := by simp [marksS]
theorem marksS_succ (k n : Nat) : marksS k (n + 1) = marksS k n ++ [markT (k + n)] := by simp [marksS, List.range_succ]
theorem marksS_at {k n i : Nat} (h : i < n) : sAt (marksS k n) i = markT (k + i) := by
  rw [sAt_in (by rw [marksS_length]; exact h)]; simp [marksS]
def partS (xs : List Value) (k j : Nat) : List Value := valsS (marksS k j) ++ xs.drop j
theorem partS_set {xs : List Value} {k j : Nat} (h : j < xs.length) : (partS xs k j).set j (.string (markT (k + j))) = partS xs k (j + 1) := by
  unfold partS
  have hl : (valsS (marksS k j)).length = j := by rw [valsS_length, marksS_length]
  rw [List.set_append_right _ _ (by omega), hl, Nat.sub_self, List.drop_eq_getElem_cons h, List.set_cons_zero, marksS_succ]
  simp [valsS]
theorem partS_end {xs : List Value} {k j : Nat} (h : xs.length ≤ j) : partS xs k j = valsS (marksS k j) := by
  unfold partS; rw [List.drop_eq_nil_of_le h, List.append_nil]
theorem partS_length {xs : List Value} {k j : Nat} (h : j ≤ xs.length) : (partS xs k j).length = xs.length := by
  unfold partS; rw [List.length_append, valsS_length, marksS_length, List.length_drop]; omega

theorem kept1S {W w' : World} {p : Addr} {v : Value} (hb : Below W.heap.size W w') (h : W.cell? p = some v) : w'.cell? p = some v := by rw [hb.cell (World.block_lt_of_cell? W _ h)]; exact h
end Go.Proofs.Ytfgigcdfmkfkjaa
/-
  The variables of a pattern, plainly.
-/
namespace Go.Proofs.Ytfgigcdfmkfkjaa
open Go.RowKit
set_option linter.unusedVariables false

def varStep (l : List ByteArray) (x : A5) : List ByteArray := if x.K = 1 ∧ hasS l x.S = false then l ++ [x.S] else l
/-- each variable once, from the left -/
def varsL (L : List A5) : List ByteArray := L.foldl varStep []
theorem varsL_take {L : List A5} {k : Nat} (h : k < L.length) : varsL (L.take (k + 1)) = varStep (varsL (L.take k)) (eAt L k) := by
  unfold varsL
  rw [List.take_succ_eq_append_getElem h, List.foldl_append, eAt_in h]
  rfl
theorem varStep_yes {l : List ByteArray} {x : A5} (h1 : x.K = 1) (h2 : hasS l x.S = false) : varStep l x = l ++ [x.S] := by unfold varStep; rw [if_pos ⟨h1, h2⟩]
theorem varStep_has {l : List ByteArray} {x : A5} (h2 : hasS l x.S = true) : varStep l x = l := by unfold varStep; rw [if_neg (fun h => by rw [h2] at h; cases h.2)]
theorem varStep_no {l : List ByteArray} {x : A5} (h1 : x.K ≠ 1) : varStep l x = l := by unfold varStep; rw [if_neg (fun h => h1 h.1)]
theorem varStep_len (l : List ByteArray) (x : A5) : (varStep l x).length ≤ l.length + 1 := by unfold varStep; split <;> simp
theorem varsL_len (L : List A5) : ∀ k, k ≤ L.length → (varsL (L.take k)).length ≤ k
  | 0, _ => by simp [varsL]
  | k + 1, h => by
    rw [varsL_take (by omega)]
    have := varStep_len (varsL (L.take k)) (eAt L k)
    have := varsL_len L k (by omega)
    omega
end Go.Proofs.Ytfgigcdfmkfkjaa
/-
  Small facts on empty texts and on boxes that a call has made.
-/
namespace Go.Proofs.Ytfgigcdfmkfkjaa
open Go.RowKit
set_option linter.unusedVariables false

theorem empty_of_size {S : ByteArray} (h : S.size = 0) : S = ⟨#[]⟩ := by
  cases S with
  | mk d =>
    have : d.size = 0 := h
    rw [Array.size_eq_zero_iff] at this
    rw [this]
theorem bcell {W w1 : World} (hb : Below W.heap.size W w1) : (∀ b o, b < W.heap.size → w1.cell? ⟨b, o, none⟩ = W.cell? ⟨b, o, none⟩) ∧ (∀ b o, b < W.heap.size → w1.frozen? ⟨b, o, none⟩ = W.frozen? ⟨b, o, none⟩) :=
  ⟨fun b o h => hb.cell (p := ⟨b, o, none⟩) h, fun b o h => hb.frozen (p := ⟨b, o, none⟩) h⟩
theorem below_box {w w' : World} {o : Obj} (hb : Below (w.alloc o).drew.heap.size (w.alloc o).drew w') : Below w.heap.size w w' :=
  (((Below.refl w.heap.size w).alloc (Nat.le_refl _) o).drew).trans (hb.mono (by simp))
theorem below_boxN (w : World) (o : Obj) (n : Nat) : Below w.heap.size w ((w.alloc o).drewN n) :=
  ((Below.refl w.heap.size w).alloc (Nat.le_refl _) o).trans ⟨rfl, rfl, rfl, Nat.le_refl _, fun _ _ => rfl⟩
theorem isEmpty_false {S : ByteArray} (h : S.size ≠ 0) : S.toList.isEmpty = false := by
  rw [ByteArray.toList_eq]
  cases hd : S.data.toList with
  | nil =>
    exfalso; apply h
    have e : S.data.toList.length = S.size := by rw [Array.length_toList]; rfl
    rw [hd] at e; simpa using e.symm
  | cons a r => rfl
end Go.Proofs.Ytfgigcdfmkfkjaa
/-
  A text copied, a value copied: the same.
-/
namespace Go.Proofs.Ytfgigcdfmkfkjaa
open Go.RowKit
set_option linter.unusedVariables false

set_option maxRecDepth 100000 in
theorem cloneS_any (s : ByteArray) (w : World) (hs : s.size ≤ 1048580) :
    Calls Try.prog 101 #[.string s] w fun e w' => e = .returned (.string s) ∧ Below w.heap.size w w' := by
  go_enter Try.func101, Try.ntmps101
  go_wp2_with fail
  refine (Try.stringslite_Clone s _ (by omega)).mono ?_
  rintro e w1 ⟨rfl, hb⟩
  go_wp2
  go_ret
  exact ⟨rfl, hb⟩
theorem two_boxes {w w' : World} {o : Obj} {cs : Array Value} {T : TypeId} (hb : Below ((w.alloc o).alloc (.cells cs T)).drew.heap.size ((w.alloc o).alloc (.cells cs T)).drew w') :
    w'.heap[w.heap.size + 1]? = some (.cells cs T (0, 0)) ∧ Below w.heap.size w w' := by
  have h0 := boxk_new (w.alloc o) cs T
  have b0 := below_al w o
  have b1 := b0.alloc b0.size (.cells cs T)
  rw [World.size_alloc] at h0
  refine ⟨box_below (w := ((w.alloc o).alloc (.cells cs T)).drew) h0 hb (by show _ < ((w.alloc o).alloc (.cells cs T)).heap.size; simp), b1.drew.trans (hb.mono ?_)⟩
  show _ ≤ ((w.alloc o).alloc (.cells cs T)).heap.size
  simp; omega
set_option maxRecDepth 100000 in
set_option maxHeartbeats 1600000 in
theorem copyVal_any (K N : Int) (S : ByteArray) (w : World) (hs : S.size ≤ 1048580) :
    Calls Try.prog 102 #[.agg #[.int .i64 K, .int .i64 N, .string S]] w fun e w' => e = .returned (.agg #[.int .i64 K, .int .i64 N, .string S]) ∧ Below w.heap.size w w' := by
  go_enter Try.func102, Try.ntmps102
  go_wp2
  go_region_with (go_at_call 101; refine (cloneS_any _ _ hs).mono ?_; rintro e w' ⟨rfl, hb⟩; obtain ⟨hc, hf⟩ := bcell hb)
  all_goals go_wp2
  all_goals
    obtain ⟨hR, hB⟩ := two_boxes hb
    clear hc hf hb
    refine box_post hR (fun w4 h4 gr => ?_)
    obtain ⟨c0, c1, c2, -, -, -⟩ := box_cell h4
    exact bodyPost_ret (v := .agg #[.int .i64 K, .int .i64 N, .string S]) (by simp [results, Try.results102, go_sem, c0, c1, c2]) rfl ⟨rfl, below_set hB gr (by omega)⟩
end Go.Proofs.Ytfgigcdfmkfkjaa
/-
  What both VarsOfs answer: varsL, in a row of the call's own.
-/
namespace Go.Proofs.Ytfgigcdfmkfkjaa
open Go.RowKit
set_option linter.unusedVariables false

theorem infoStr : (Try.prog.info? 9).map (fun i => (i.zero, i.size, i.bytes)) = some (some (.string ⟨#[]⟩), 1, 16) := by kernel_rfl
theorem srcS (W : World) (x : ByteArray) : ∀ j u, ([.string x] : List Value)[j]? = some u → (W.alloc (.cells #[.string x] 9)).cell? ((⟨W.heap.size, 0, none⟩ : Addr).add j) = some u := by
  intro j u hj
  rw [Addr.add_lit, Nat.zero_add]
  have hb : (W.alloc (.cells #[.string x] 9)).heap[W.heap.size]? = some (.cells #[.string x] 9 (0, 0)) := by rw [heap_alloc_new]
  match j, hj with
  | 0, hj => rw [cell_of_row _ _ 0 _ _ (0, 0) hb]; simpa using hj
theorem oneS (x : ByteArray) : ∀ u ∈ ([.string x] : List Value), u.oneCell' = true := by
  intro u hu
  simp only [List.mem_cons, List.not_mem_nil, or_false] at hu
  rw [hu]; rfl

theorem ownsRow_lowS {w : World} {base base' size n : Nat} {e : TypeId} {v : Value} {xs : List Value} (h : w.ownsRow base e size v n xs) (hb : base' ≤ base) : w.ownsRow base' e size v n xs := by
  refine ⟨h.1, ?_⟩
  rcases h.2 with h2 | ⟨g, cap, cur, h1, hb', rest⟩
  · exact .inl h2
  · exact .inr ⟨g, cap, cur, h1, Nat.le_trans hb hb', rest⟩
/-- a row of texts of the call's own -/
def GivesS (e : Ending) (w' : World) (base : Nat) (l : List ByteArray) : Prop := ∃ v, e = .returned v ∧ w'.ownsRow base 9 1 v l.length (valsS l)

/-- a text that is there once -/
def addS (l : List ByteArray) (s : ByteArray) : List ByteArray := if hasS l s = true then l else l ++ [s]
theorem addS_yes {l : List ByteArray} {s : ByteArray} (h : hasS l s = true) : addS l s = l := by unfold addS; rw [if_pos h]
theorem addS_no {l : List ByteArray} {s : ByteArray} (h : hasS l s = false) : addS l s = l ++ [s] := by unfold addS; rw [h]; rfl
theorem addS_len (l : List ByteArray) (s : ByteArray) : (addS l s).length ≤ l.length + 1 := by unfold addS; split <;> simp
theorem varStep_add {l : List ByteArray} {x : A5} (h : x.K = 1) : varStep l x = addS l x.S := by
  unfold varStep addS
  cases hasS l x.S <;> simp [h]
/-- the variables of these arguments behind those that are there -/
def varsF (l : List ByteArray) (L : List A5) : List ByteArray := L.foldl varStep l
theorem varsF_nil (L : List A5) : varsF [] L = varsL L := rfl
theorem varsF_take {l : List ByteArray} {L : List A5} {k : Nat} (h : k < L.length) : varsF l (L.take (k + 1)) = varStep (varsF l (L.take k)) (eAt L k) := by
  unfold varsF
  rw [List.take_succ_eq_append_getElem h, List.foldl_append, eAt_in h]
  rfl
theorem varsF_len (l : List ByteArray) (L : List A5) : ∀ k, k ≤ L.length → (varsF l (L.take k)).length ≤ l.length + k
  | 0, _ => by simp [varsF]
  | k + 1, h => by
    rw [varsF_take (by omega)]
    have := varStep_len (varsF l (L.take k)) (eAt L k)
    have := varsF_len l L k (by omega)
    omega
/-- a row of texts at or behind a world's end, where all that was in that world is left -/
def RowS (w0 : World) (v : Value) (l : List ByteArray) (w : World) : Prop := w.ownsRow w0.heap.size 9 1 v l.length (valsS l) ∧ Below w0.heap.size w0 w
theorem RowS.nil (w : World) : RowS w (.slice none 0 0) [] w := ⟨World.ownsRow_nil _ _ _ _, Below.refl _ _⟩
theorem RowS.alloc {w0 w : World} {v : Value} {l : List ByteArray} (h : RowS w0 v l w) (o : Obj) : RowS w0 v l (w.alloc o) := ⟨h.1.alloc o, h.2.alloc h.2.size o⟩
theorem RowS.later {w0 w w' : World} {v : Value} {l : List ByteArray} (h : RowS w0 v l w) (hb : Below w.heap.size w w') : RowS w0 v l w' := ⟨ownsRow_below' h.1 hb, h.2.trans (hb.mono h.2.size)⟩
theorem RowS.from {w1 w0 w : World} {v : Value} {l : List ByteArray} (h : RowS w0 v l w) (hb : Below w1.heap.size w1 w0) : RowS w1 v l w := ⟨ownsRow_lowS h.1 hb.size, hb.trans (h.2.mono hb.size)⟩

set_option maxRecDepth 100000 in
set_option maxHeartbeats 3200000 in
theorem withText_any (w0 : World) (v : Value) (l : List ByteArray) (s : ByteArray) (w : World) (h : RowS w0 v l w) (hs : s.size ≤ 1048580) (hl : l.length ≤ 1048579) :
    Calls Try.prog 81 #[v, .string s] w fun e w' => ∃ v', e = .returned v' ∧ RowS w0 v' (addS l s) w' := by
  obtain ⟨i0, hi, hz0, hz1, hz2⟩ := info_parts infoStr
  obtain ⟨va, vc, e0, r3, -⟩ := rdS_owns h.1
  subst e0
  have HH := hide h
  cases hh : hasS l s
  · have HA := hide (addS_no hh)
    clear h
    go_enter Try.func81, Try.ntmps81
    go_wp2_with fail
    refine (containsS_any va l.length vc l s _ rfl r3 (by omega)).mono ?_
    rintro e w3 ⟨rfl, rfl⟩
    rw [hh]
    go_wp2_with fail
    refine (cloneS_any s _ (by omega)).mono ?_
    rintro e w3 ⟨rfl, hb3⟩
    have H4 := hide ((HH.out.later hb3).alloc (.cells #[.string s] 9))
    have HSrc := hide (srcS w3 s)
    have HZ4 := H4.out.2.size
    clear HH r3 hb3
    go_wp2_with (at_builtin; refine wpList_append_lies _ rfl (.tmp 9) (.tmp 12) 74 rfl w0.heap.size 9 i0 (.string ⟨#[]⟩) 1 16 Try.underlying74 hi hz0 hz1 hz2 rfl (by omega) (.slice va l.length vc) l.length (valsS l) rfl H4.out.1 ⟨w3.heap.size, 0, none⟩ 1 1 [.string s] ?hx rfl HSrc.out (oneS s) (by omega) (by unfold maxLen; omega) (by omega) HZ4 _ rfl ?_)
    case hx => simp [Act.eval]
    intro g5 c5 w5 ho5 hg5 hat5 hlt5
    have HF : Hid (RowS w0 (.slice (some ⟨g5, 0, none⟩) (l.length + 1) c5) (addS l s) w5) := by
      refine ⟨?_, H4.out.2.grown hg5 HZ4 (fun k hk => (H4.out.1.lt k hk).1)⟩
      rw [HA.out, ← valsS_snoc, List.length_append]
      exact ho5
    clear ho5 hg5 hat5 hlt5 HSrc H4 HZ4
    go_wp2
    go_ret
    exact ⟨_, rfl, HF.out⟩
  · have HA := hide (addS_yes hh)
    clear h
    go_enter Try.func81, Try.ntmps81
    go_wp2_with fail
    refine (containsS_any va l.length vc l s _ rfl r3 (by omega)).mono ?_
    rintro e w3 ⟨rfl, rfl⟩
    rw [hh]
    go_wp2
    go_ret
    exact ⟨_, rfl, by rw [HA.out]; exact HH.out⟩

set_option maxRecDepth 100000 in
set_option maxHeartbeats 3200000 in
theorem withVars_any (w0 : World) (v : Value) (l : List ByteArray) (kd : ByteArray) (a : Option Addr) (cap : Nat) (L : List A5) (nt : Bool) (w : World) (h : RowS w0 v l w) (hr : RdArg w0 a L) (hs : ∀ x ∈ L, x.small) (hm : l.length + L.length ≤ 1048579) :
    Calls Try.prog 82 #[v, .agg #[.string kd, .slice a L.length cap, .bool nt]] w fun e w' => ∃ v', e = .returned v' ∧ RowS w0 v' (varsF l L) w' := by
  obtain ⟨n, hN⟩ : ∃ n, n = L.length := ⟨_, rfl⟩
  rw [← hN] at hm ⊢
  have HN := hide hN
  have HS := hide hs
  have HE : Hid (varsF l (L.take n) = varsF l L) := by unfold Hid; rw [hN, List.take_length]
  have h1 := h.alloc (.cells #[.string kd, .slice a n cap, .bool nt] 79)
  clear hN hs h
  go_enter Try.func82, Try.ntmps82
  go_wp2
  generalize w.alloc (.cells #[.string kd, .slice a n cap, .bool nt] 79) = w1 at h1
  go_loopw [0, 10] (fun v i wr => ∃ (k : Nat), k ≤ n ∧ i = .int .i64 k ∧ RowS w0 v (varsF l (L.take k)) wr) (fun _ i _ => n - (intOf i).toNat)
  case atStart => exact ⟨0, Nat.zero_le _, rfl, h1⟩
  case round =>
    clear h1
    obtain ⟨k, hk, rfl, hrow⟩ := hrel
    have HR := hide hrow
    clear hrow
    by_cases hlt : k < n
    · have hlL : k < L.length := by rw [← HN.out]; exact hlt
      obtain ⟨b, off, hab, hbw, hc⟩ := RdArg.cells (hr.below HR.out.2) (by omega)
      obtain ⟨c0, c1, c2, c3, c4⟩ := hc k hlL
      clear hc
      have hS : (eAt L k).small := by rw [eAt_in hlL]; exact HS.out _ (List.getElem_mem _)
      have hS1 := hS.1
      have HT := hide (varsF_take (l := l) hlL)
      have hvl := varsF_len l L k (by omega)
      subst hab
      obtain ⟨x, hx⟩ : ∃ x, x = eAt L k := ⟨_, rfl⟩
      rw [← hx] at c0 c1 c2 c3 c4 HT hS1
      obtain ⟨K, S, VK, VN, VS⟩ := x
      clear hx hS hlL
      simp only at c0 c1 c2 c3 c4 hS1
      generalize varsF l (L.take k) = l2 at HR HT hvl
      have H2 := HR.out.alloc (.cells #[.int .i64 K, .string S, .int .i64 VK, .int .i64 VN, .string VS] 157)
      by_cases h1 : K = 1
      · subst h1
        rw [varStep_add rfl] at HT
        go_wp2_with fail
        refine (withText_any w0 _ l2 S _ H2 (by omega) (by omega)).mono ?_
        rintro e w3 ⟨v', rfl, h3⟩
        have H3 := hide h3
        clear h3 H2 HR c0 c1 c2 c3 c4
        go_wp2
        go_roundw
        case rel => exact ⟨k + 1, by omega, by go_num, by rw [HT.out]; exact H3.out⟩
        case measure => simp [intOf]; omega
      · rw [varStep_no h1] at HT
        have k1 : (K == 1) = false := by simpa using h1
        have H3 := hide H2
        clear h1 H2 HR
        go_wp2
        go_roundw
        case rel => exact ⟨k + 1, by omega, by go_num, by rw [HT.out]; exact H3.out⟩
        case measure => simp [intOf]; omega
    · obtain rfl : k = n := by omega
      go_wp2
      go_ret
      exact ⟨_, rfl, by rw [← HE.out]; exact HR.out⟩

set_option maxRecDepth 100000 in
set_option maxHeartbeats 3200000 in
theorem implVarsOf_any (kd : ByteArray) (a : Option Addr) (cap : Nat) (L : List A5) (nt : Bool) (w : World) (hr : RdArg w a L) (hs : ∀ x ∈ L, x.small) (hm : L.length ≤ 1048576) :
    Calls Try.prog 41 #[.agg #[.string kd, .slice a L.length cap, .bool nt]] w fun e w' => GivesS e w' w.heap.size (varsL L) ∧ Below w.heap.size w w' := by
  have b1 := below_al w (.cells #[.string kd, .slice a L.length cap, .bool nt] 79)
  go_enter Try.func41, Try.ntmps41
  go_wp2_with fail
  refine (withVars_any (w.alloc (.cells #[.string kd, .slice a L.length cap, .bool nt] 79)) _ [] kd a cap L nt _ (RowS.nil _) (hr.below b1) hs (by simp; omega)).mono ?_
  rintro e w1 ⟨v', rfl, h⟩
  have H := hide (h.from b1)
  clear h
  go_wp2
  go_ret
  exact ⟨⟨_, rfl, H.out.1⟩, H.out.2⟩

set_option maxRecDepth 100000 in
set_option maxHeartbeats 3200000 in
theorem specVarsOf_any (kd : ByteArray) (a : Option Addr) (cap : Nat) (L : List A5) (nt : Bool) (w : World) (hr : RdArg w a L) (hs : ∀ x ∈ L, x.small) (hm : L.length ≤ 1048576) :
    Calls Try.prog 83 #[.agg #[.string kd, .slice a L.length cap, .bool nt]] w fun e w' => GivesS e w' w.heap.size (varsL L) ∧ Below w.heap.size w w' := by
  obtain ⟨i0, hi, hz0, hz1, hz2⟩ := info_parts infoStr
  obtain ⟨n, hN⟩ : ∃ n, n = L.length := ⟨_, rfl⟩
  rw [← hN] at hm ⊢
  have b1 := below_al w (.cells #[.string kd, .slice a n cap, .bool nt] 79)
  have hP := boxk_new w #[.string kd, .slice a n cap, .bool nt] 79
  have hsz : w.heap.size + 1 ≤ (w.alloc (.cells #[.string kd, .slice a n cap, .bool nt] 79)).heap.size := by simp
  have HN := hide hN
  have HS := hide hs
  have HE : Hid (varsL (L.take n) = varsL L) := by unfold Hid; rw [hN, List.take_length]
  clear hN hs
  go_enter Try.func83, Try.ntmps83
  go_wp2
  have ho0 : ((w.alloc (.cells #[.string kd, .slice a n cap, .bool nt] 79)).alloc (.cells #[] 9)).ownsRow (w.heap.size + 1) 9 1 (.slice (some ⟨w.heap.size + 1, 0, none⟩) 0 0) 0 [] := by
    have := World.ownsRow_lit (base := w.heap.size + 1) (e := 9) (size := 1) (w.alloc (.cells #[.string kd, .slice a n cap, .bool nt] 79)) #[] 0 hsz (by unfold maxLen; omega) rfl
    rw [World.size_alloc] at this
    exact this
  have b2 := b1.alloc (by omega) (.cells #[] 9)
  have hP2 := box_old hP (by omega) (.cells #[] 9)
  have hsz2 : w.heap.size + 1 ≤ ((w.alloc (.cells #[.string kd, .slice a n cap, .bool nt] 79)).alloc (.cells #[] 9)).heap.size := by simp
  generalize (w.alloc (.cells #[.string kd, .slice a n cap, .bool nt] 79)).alloc (.cells #[] 9) = w1 at b2 hsz2 hP2 ho0
  have HP := hide hP2
  clear hP hP2 hsz b1
  go_loopw [3, 4] (fun v i wr => ∃ (k : Nat), k ≤ n ∧ i = .int .i64 k ∧ wr.ownsRow (w.heap.size + 1) 9 1 v (varsL (L.take k)).length (valsS (varsL (L.take k))) ∧ Below (w.heap.size + 1) w1 wr) (fun _ i _ => n - (intOf i).toNat)
  case atStart => exact ⟨0, Nat.zero_le _, rfl, ho0, Below.refl _ _⟩
  case round =>
    clear ho0
    obtain ⟨k, hk, rfl, hown, hbel⟩ := hrel
    obtain ⟨va, vc, e0, -, -⟩ := rdS_owns hown
    have hB : Below w.heap.size w wr := b2.trans (hbel.mono (Nat.le_succ _))
    have hws : w.heap.size + 1 ≤ wr.heap.size := Nat.le_trans hsz2 hbel.size
    have p1 := boxk_cell (box_below HP.out hbel (by omega)) 1 _ rfl
    by_cases hlt : k < n
    · have hlL : k < L.length := by rw [← HN.out]; exact hlt
      obtain ⟨b, off, hab, hbw, hc⟩ := RdArg.cells (hr.below hB) (by omega)
      obtain ⟨c0, c1, c2, c3, c4⟩ := hc k hlL
      clear hc c2 c3 c4
      have HT := hide (varsL_take hlL)
      have hvl := varsL_len L k (by omega)
      subst hab e0
      obtain ⟨x, hx⟩ : ∃ x, x = eAt L k := ⟨_, rfl⟩
      rw [← hx] at c0 c1 HT
      obtain ⟨K, S, VK, VN, VS⟩ := x
      clear hx hlL
      simp only at c0 c1
      generalize varsL (L.take k) = l at hown HT hvl
      by_cases h1 : K = 1
      · subst h1
        have r3 := rdS_of hown
        have HO3 := hide hown
        have HB3 := hide hbel
        cases hh : hasS l S
        · rw [varStep_yes rfl hh] at HT
          have HO4 := hide (HO3.out.alloc (.cells #[.string S] 9))
          have HB4 := hide (HB3.out.alloc hws (.cells #[.string S] 9))
          have HSrc := hide (srcS wr S)
          have HZ4 : Hid (w.heap.size + 1 ≤ (wr.alloc (.cells #[.string S] 9)).heap.size) := by unfold Hid; simp; omega
          clear hown hB hbel
          go_wp2_with fail
          refine (l6Has_any va l.length vc l S _ rfl r3 (by omega)).mono ?_
          rintro e w3 ⟨rfl, rfl⟩
          rw [hh]
          clear HO3 HB3 r3
          go_wp2_with (at_builtin; refine wpList_append_lies _ rfl (.tmp 31) (.tmp 38) 74 rfl (w.heap.size + 1) 9 i0 (.string ⟨#[]⟩) 1 16 Try.underlying74 hi hz0 hz1 hz2 rfl (by omega) (.slice va l.length vc) l.length (valsS l) rfl HO4.out ⟨w3.heap.size, 0, none⟩ 1 1 [.string S] ?hx rfl HSrc.out (oneS S) (by omega) (by unfold maxLen; omega) (by omega) HZ4.out _ rfl ?_)
          case hx => simp [Act.eval]
          intro g5 c5 w5 ho5 hg5 hat5 hlt5
          have HL5 : Hid ((varsL (L.take (k + 1))).length = l.length + 1) := by unfold Hid; rw [HT.out, List.length_append]; rfl
          have HO5 : Hid (w5.ownsRow (w.heap.size + 1) 9 1 (.slice (some ⟨g5, 0, none⟩) (l.length + 1) c5) (varsL (L.take (k + 1))).length (valsS (varsL (L.take (k + 1))))) := by
            unfold Hid
            rw [HL5.out, HT.out, ← valsS_snoc]
            exact ho5
          have HB5 := hide (HB4.out.grown hg5 HZ4.out (fun k hk => (HO4.out.lt k hk).1))
          clear ho5 hg5 hat5 hlt5 HO4 HSrc HB4
          go_wp2
          go_roundw
          case rel => exact ⟨k + 1, by omega, by go_num, HO5.out, HB5.out⟩
          case measure => simp [intOf]; omega
        · rw [varStep_has hh] at HT
          clear hown hB hbel
          go_wp2_with fail
          refine (l6Has_any va l.length vc l S _ rfl r3 (by omega)).mono ?_
          rintro e w3 ⟨rfl, rfl⟩
          rw [hh]
          go_wp2
          go_roundw
          case rel => exact ⟨k + 1, by omega, by go_num, by rw [HT.out]; exact HO3.out, HB3.out⟩
          case measure => simp [intOf]; omega
      · rw [varStep_no h1] at HT
        have k1 : (K == 1) = false := by simpa using h1
        have HO3 := hide hown
        have HB3 := hide hbel
        clear hown hB hbel h1
        go_wp2
        go_roundw
        case rel => exact ⟨k + 1, by omega, by go_num, by rw [HT.out]; exact HO3.out, HB3.out⟩
        case measure => simp [intOf]; omega
    · obtain rfl : k = n := by omega
      have HF : Hid (GivesS (.returned (.slice va (varsL (L.take k)).length vc)) wr w.heap.size (varsL L)) := by
        refine ⟨_, rfl, ?_⟩
        rw [← HE.out]
        subst e0
        exact ownsRow_lowS hown (Nat.le_succ _)
      subst e0
      go_wp2
      go_ret
      exact ⟨HF.out, hB⟩
end Go.Proofs.Ytfgigcdfmkfkjaa
/-
  What a rule's patterns bind, plainly: those that are not Not, their variables, all kinds.
-/
namespace Go.Proofs.Ytfgigcdfmkfkjaa
open Go.RowKit
set_option linter.unusedVariables false

theorem foldl_snoc {α β : Type} [Inhabited α] (f : β → α → β) (b : β) {L : List α} {k : Nat} (h : k < L.length) : (L.take (k + 1)).foldl f b = f ((L.take k).foldl f b) (eAt L k) := by
  rw [List.take_succ_eq_append_getElem h, List.foldl_append, eAt_in h]; rfl
/-- the patterns that are not Not -/
def posB (J : List PE) : List PE := J.filter (fun p => !p.nt)
theorem posB_take {J : List PE} {k : Nat} (h : k < J.length) : posB (J.take (k + 1)) = posB (J.take k) ++ (if (eAt J k).nt = true then [] else [eAt J k]) := by
  unfold posB
  rw [List.take_succ_eq_append_getElem h, List.filter_append, eAt_in h]
  cases hh : J[k].nt <;> simp [hh]
theorem posB_len (J : List PE) : (posB J).length ≤ J.length := List.length_filter_le _ _
theorem posB_take_len (J : List PE) (k : Nat) : (posB (J.take k)).length ≤ J.length := Nat.le_trans (posB_len _) (by rw [List.length_take]; omega)
/-- their variables behind those that are there -/
def varsB (l : List ByteArray) (J : List PE) : List ByteArray := J.foldl (fun l p => varsF l p.L) l
def kindsL (l : List ByteArray) (J : List PE) : List ByteArray := J.foldl (fun l p => addS l p.kd) l
theorem varsF_len' (l : List ByteArray) (L : List A5) : (varsF l L).length ≤ l.length + L.length := by
  have := varsF_len l L L.length (Nat.le_refl _)
  rw [List.take_length] at this; exact this
theorem varsB_len (l : List ByteArray) : ∀ J : List PE, (varsB l J).length ≤ l.length + (J.map PE.sz).sum
  | [] => by simp [varsB]
  | x :: r => by
    have h1 := varsB_len (varsF l x.L) r
    have h2 := varsF_len' l x.L
    have h3 : varsB l (x :: r) = varsB (varsF l x.L) r := rfl
    rw [h3]
    simp only [List.map_cons, List.sum_cons]
    have h4 : x.sz = x.kd.size + x.L.length := rfl
    omega
theorem kindsL_len (l : List ByteArray) : ∀ J : List PE, (kindsL l J).length ≤ l.length + J.length
  | [] => by simp [kindsL]
  | x :: r => by
    have h1 := kindsL_len (addS l x.kd) r
    have h2 := addS_len l x.kd
    have h3 : kindsL l (x :: r) = kindsL (addS l x.kd) r := rfl
    rw [h3]
    simp only [List.length_cons]
    omega
theorem sum_sub {α : Type} (wt : α → Nat) (p : α → Bool) : ∀ L : List α, ((L.filter p).map wt).sum ≤ (L.map wt).sum
  | [] => by simp
  | x :: r => by
    have := sum_sub wt p r
    rw [List.filter_cons]
    by_cases h : p x = true
    · rw [if_pos h]; simp only [List.map_cons, List.sum_cons]; omega
    · rw [if_neg h]; simp only [List.map_cons, List.sum_cons]; omega
theorem sum_take {α : Type} (wt : α → Nat) (L : List α) (k : Nat) : ((L.take k).map wt).sum ≤ (L.map wt).sum := totW_le wt L k
/-- the same by what is plain -/
theorem posB_pl {K J : List PE} (h : K.map PE.pl = J.map PE.pl) : (posB K).map PE.pl = (posB J).map PE.pl := by
  have e : ∀ L : List PE, (posB L).map PE.pl = (L.map PE.pl).filter (fun p => !p.nt) := fun L => by
    unfold posB; rw [List.filter_map]; rfl
  rw [e, e, h]
theorem varsB_pl {K J : List PE} (h : K.map PE.pl = J.map PE.pl) (l : List ByteArray) : varsB l K = varsB l J := by
  have e : ∀ L : List PE, varsB l L = (L.map PE.pl).foldl (fun l p => varsF l p.L) l := fun L => by
    unfold varsB; rw [List.foldl_map]; rfl
  rw [e, e, h]
theorem kindsL_pl {K J : List PE} (h : K.map PE.pl = J.map PE.pl) (l : List ByteArray) : kindsL l K = kindsL l J := by
  have e : ∀ L : List PE, kindsL l L = (L.map PE.pl).foldl (fun l p => addS l p.kd) l := fun L => by
    unfold kindsL; rw [List.foldl_map]; rfl
  rw [e, e, h]

/-- texts added one by one -/
def adds (l s : List ByteArray) : List ByteArray := s.foldl addS l
theorem adds_snoc (l s : List ByteArray) (x : ByteArray) : adds l (s ++ [x]) = addS (adds l s) x := by unfold adds; rw [List.foldl_append]; rfl
theorem adds_app (l s t : List ByteArray) : adds l (s ++ t) = adds (adds l s) t := by unfold adds; rw [List.foldl_append]
theorem addS_keep {l : List ByteArray} {x y : ByteArray} (h : x ∈ l) : x ∈ addS l y := by unfold addS; split; exact h; exact List.mem_append_left _ h
theorem addS_mem (l : List ByteArray) (y : ByteArray) : y ∈ addS l y := by
  unfold addS
  by_cases h : hasS l y = true
  · rw [if_pos h]; exact hasS_mem.1 h
  · rw [if_neg h]; simp
theorem adds_keep {x : ByteArray} : ∀ (s l : List ByteArray), x ∈ l → x ∈ adds l s
  | [], l, h => h
  | y :: r, l, h => adds_keep r (addS l y) (addS_keep h)
theorem adds_mem {x : ByteArray} : ∀ (s l : List ByteArray), x ∈ s → x ∈ adds l s
  | y :: r, l, h => by
    rcases List.mem_cons.1 h with rfl | h
    · exact adds_keep r _ (addS_mem l x)
    · exact adds_mem r (addS l y) h
/-- what is there once already can be left out -/
theorem adds_once (l s : List ByteArray) : adds l (adds [] s) = adds l s := by
  have key : ∀ n (s : List ByteArray), s.length = n → adds l (adds [] s) = adds l s := by
    intro n
    induction n with
    | zero => intro s h; rw [List.eq_nil_of_length_eq_zero h]; rfl
    | succ n ih =>
      intro s h
      rcases List.eq_nil_or_concat s with rfl | ⟨r, x, hsx⟩
      · simp at h
      rw [List.concat_eq_append] at hsx
      subst hsx
      have hr : r.length = n := by simpa using h
      have ih := ih r hr
      rw [adds_snoc, adds_snoc, ← ih]
      by_cases hx : hasS (adds [] r) x = true
      · have h1 : x ∈ adds l (adds [] r) := adds_mem _ _ (hasS_mem.1 hx)
        rw [addS_yes hx, addS_yes (hasS_mem.2 h1)]
      · rw [addS_no (by simpa using hx), adds_snoc]
  exact key _ s rfl
/-- the variables' names, each as often as it is there -/
def namesOf (L : List A5) : List ByteArray := (L.filter (fun x => decide (x.K = 1))).map A5.S
theorem varsF_names : ∀ (L : List A5) (l : List ByteArray), varsF l L = adds l (namesOf L)
  | [], l => rfl
  | x :: r, l => by
    have h : varsF l (x :: r) = varsF (varStep l x) r := rfl
    rw [h, varsF_names r]
    by_cases h1 : x.K = 1
    · rw [varStep_add h1]; unfold namesOf; rw [List.filter_cons, if_pos (by simpa using h1)]; rfl
    · rw [varStep_no h1]; unfold namesOf; rw [List.filter_cons, if_neg (by simpa using h1)]
/-- the model adds a pattern's own variables -/
theorem varsF_of (l : List ByteArray) (L : List A5) : adds l (varsL L) = varsF l L := by rw [← varsF_nil, varsF_names, varsF_names, adds_once]
end Go.Proofs.Ytfgigcdfmkfkjaa
/-
  What stands in the variables of a pattern, plainly: each is some argument's, and there once.
-/
namespace Go.Proofs.Ytfgigcdfmkfkjaa
open Go.RowKit
set_option linter.unusedVariables false

/-- each of these is some argument's, and none is there twice -/
def VarsOk (L : List A5) (l : List ByteArray) : Prop := (∀ s ∈ l, ∃ x ∈ L, x.K = 1 ∧ x.S = s) ∧ ∀ i, i < l.length → hasS (l.take i) (sAt l i) = false
theorem hasS_take {l : List ByteArray} {s : ByteArray} : hasS l s = false ↔ s ∉ l := by
  rw [← hasS_mem]; cases hasS l s <;> simp
theorem varStep_ok {L : List A5} {l : List ByteArray} {x : A5} (h : VarsOk L l) (hx : x ∈ L) : VarsOk L (varStep l x) := by
  unfold varStep
  split
  · rename_i hc
    refine ⟨fun s hs => ?_, fun i hi => ?_⟩
    · rcases List.mem_append.1 hs with h1 | h1
      · exact h.1 s h1
      · simp only [List.mem_cons, List.not_mem_nil, or_false] at h1
        exact ⟨x, hx, hc.1, h1.symm⟩
    · rw [List.length_append] at hi
      by_cases hil : i < l.length
      · have e1 : sAt (l ++ [x.S]) i = sAt l i := by rw [sAt_in (by rw [List.length_append]; omega), sAt_in hil, List.getElem_append_left hil]
        have e2 : (l ++ [x.S]).take i = l.take i := List.take_append_of_le_length (by omega)
        rw [e1, e2]; exact h.2 i hil
      · have e0 : i = l.length := by simp at hi; omega
        have e1 : sAt (l ++ [x.S]) i = x.S := by rw [sAt_in (by rw [List.length_append]; exact hi)]; subst e0; simp
        have e2 : (l ++ [x.S]).take i = l := by subst e0; simp
        rw [e1, e2]; exact hc.2
  · exact h
theorem foldl_ok {L : List A5} : ∀ (M : List A5) {l : List ByteArray}, (∀ x ∈ M, x ∈ L) → VarsOk L l → VarsOk L (M.foldl varStep l)
  | [], _, _, h => h
  | x :: r, l, hM, h => foldl_ok r (fun y hy => hM y (List.mem_cons_of_mem _ hy)) (varStep_ok h (hM x List.mem_cons_self))
theorem varsL_ok (L : List A5) : VarsOk L (varsL L) := foldl_ok L (fun _ h => h) ⟨(fun s hs => by cases hs), fun i hi => absurd hi (Nat.not_lt_zero _)⟩
end Go.Proofs.Ytfgigcdfmkfkjaa
/-
  Which texts are among the variables of patterns.
-/
namespace Go.Proofs.Ytfgigcdfmkfkjaa
open Go.RowKit
set_option linter.unusedVariables false

theorem names_mem {L : List A5} {s : ByteArray} : s ∈ namesOf L ↔ ∃ b ∈ L, b.K = 1 ∧ b.S = s := by
  unfold namesOf
  rw [List.mem_map]
  constructor
  · rintro ⟨b, hb, e⟩
    rw [List.mem_filter] at hb
    exact ⟨b, hb.1, by simpa using hb.2, e⟩
  · rintro ⟨b, hb, h1, e⟩
    exact ⟨b, List.mem_filter.2 ⟨hb, by simpa using h1⟩, e⟩
theorem addS_mem_iff {l : List ByteArray} {x y : ByteArray} : x ∈ addS l y ↔ x ∈ l ∨ x = y := by
  unfold addS
  by_cases h : hasS l y = true
  · rw [if_pos h]
    exact ⟨.inl, fun h2 => h2.elim id (fun e => by rw [e]; exact hasS_mem.1 h)⟩
  · rw [if_neg h]; simp
theorem adds_mem_iff {x : ByteArray} : ∀ (s l : List ByteArray), x ∈ adds l s ↔ x ∈ l ∨ x ∈ s
  | [], l => by simp [adds]
  | y :: r, l => by
    have e : adds l (y :: r) = adds (addS l y) r := rfl
    rw [e, adds_mem_iff r, addS_mem_iff, List.mem_cons, or_assoc]
theorem varsB_mem {s : ByteArray} : ∀ (J : List PE) (l : List ByteArray), s ∈ varsB l J ↔ s ∈ l ∨ ∃ p ∈ J, ∃ b ∈ p.L, b.K = 1 ∧ b.S = s
  | [], l => by simp [varsB]
  | p :: r, l => by
    have e : varsB l (p :: r) = varsB (varsF l p.L) r := rfl
    rw [e, varsB_mem r, varsF_names, adds_mem_iff, names_mem, or_assoc]
    simp only [List.mem_cons, exists_eq_or_imp]
theorem varsB_small {J : List PE} (hs : ∀ p ∈ J, p.small) : ∀ s ∈ varsB [] (posB J), s.size ≤ 1048576 := fun s h => by
  rcases (varsB_mem _ _).1 h with h | ⟨p, hp, b, hb, -, rfl⟩
  · cases h
  · have hp2 : p ∈ J := by unfold posB at hp; exact (List.mem_filter.1 hp).1
    exact ((hs p hp2).2.2 b hb).1
end Go.Proofs.Ytfgigcdfmkfkjaa
/-
  What the model answers: PosCount, PosVars, KindsOf, plainly the same as the tested ones.
-/
namespace Go.Proofs.Ytfgigcdfmkfkjaa
open Go.RowKit
set_option linter.unusedVariables false

theorem cell_same {w w' : World} {p : Addr} (h : w'.heap[p.block]? = w.heap[p.block]?) : w'.cell? p = w.cell? p := by simp [World.cell?, h]
theorem adds_len (l : List ByteArray) : ∀ s : List ByteArray, (adds l s).length ≤ l.length + s.length := fun s => by
  induction s generalizing l with
  | nil => simp [adds]
  | cons x r ih =>
    have h1 := ih (addS l x)
    have h2 := addS_len l x
    have h3 : adds l (x :: r) = adds (addS l x) r := rfl
    rw [h3]
    simp only [List.length_cons]; omega
theorem adds_take {l s : List ByteArray} {k : Nat} (h : k < s.length) : adds l (s.take (k + 1)) = addS (adds l (s.take k)) (sAt s k) := by
  rw [List.take_succ_eq_append_getElem h, adds_snoc, sAt_in h]
theorem count_step {J : List PE} {k : Nat} (h : k < J.length) : (posB (J.take (k + 1))).length = (posB (J.take k)).length + (if (eAt J k).nt = true then 0 else 1) := by
  rw [posB_take h, List.length_append]
  split <;> rfl

set_option maxRecDepth 100000 in
set_option maxHeartbeats 1600000 in
theorem specPosCount_any (x : RE) (w : World) (hr : RdRule w x) (hn : x.nP ≤ 1048576) :
    Calls Try.prog 145 #[.agg #[.string x.nm, .int .i64 x.sal, .slice x.aP x.nP x.cP, .slice x.aC x.nC x.cC, .slice x.aA x.nA x.cA]] w fun e w' =>
      e = .returned (.int .i64 ((posB x.P).length : Int)) ∧ Below w.heap.size w w' := by
  have b0 := below_al w (.cells #[.string x.nm, .int .i64 x.sal, .slice x.aP x.nP x.cP, .slice x.aC x.nC x.cC, .slice x.aA x.nA x.cA] 49)
  have hX := boxk_new w #[.string x.nm, .int .i64 x.sal, .slice x.aP x.nP x.cP, .slice x.aC x.nC x.cC, .slice x.aA x.nA x.cA] 49
  have HN := hide hr.np
  have HE : Hid ((posB (x.P.take x.nP)).length = (posB x.P).length) := by unfold Hid; rw [← hr.np, List.take_length]
  have hp := hr.p.below b0
  go_enter Try.func145, Try.ntmps145
  go_wp2
  generalize w.alloc (.cells #[.string x.nm, .int .i64 x.sal, .slice x.aP x.nP x.cP, .slice x.aC x.nC x.cC, .slice x.aA x.nA x.cA] 49) = w1 at b0 hX hp ⊢
  have HX := hide hX
  clear hX
  go_loopw [3, 4] (fun v i wr => ∃ (k m : Nat), k ≤ x.nP ∧ i = .int .i64 k ∧ v = .int .i64 (m : Int) ∧ m = (posB (x.P.take k)).length ∧ m ≤ k ∧ wr = w1) (fun _ i _ => x.nP - (intOf i).toNat)
  case atStart => exact ⟨0, 0, Nat.zero_le _, rfl, rfl, by simp [posB], Nat.le_refl _, rfl⟩
  case round =>
    obtain ⟨k, m, hk, rfl, rfl, hm, hmk, rfl⟩ := hrel
    have HM := hide hm
    clear hm
    have a2 := boxk_cell HX.out 2 _ rfl
    by_cases hlt : k < x.nP
    · have hlL : k < x.P.length := by rw [HN.out]; exact hlt
      obtain ⟨b, off, hab, hbw, hc⟩ := hp.cells (by omega)
      obtain ⟨-, -, c2, -⟩ := hc k hlL
      clear hc
      have HT := hide (count_step hlL)
      rw [hab] at a2
      rw [hab]
      generalize (eAt x.P k).nt = nt at c2 HT
      cases nt
      · have HR : Hid (m + 1 = (posB (x.P.take (k + 1))).length) := by unfold Hid; rw [HT.out, HM.out]; rfl
        clear HT
        go_wp2
        go_roundw
        case rel => exact ⟨k + 1, m + 1, by omega, by go_num, by go_num, HR.out, by omega, by first | rfl | trivial⟩
        case measure => simp [intOf]; omega
      · have HR : Hid (m = (posB (x.P.take (k + 1))).length) := by unfold Hid; rw [HT.out, HM.out]; rfl
        clear HT
        go_wp2
        go_roundw
        case rel => exact ⟨k + 1, m, by omega, by go_num, rfl, HR.out, by omega, by first | rfl | trivial⟩
        case measure => simp [intOf]; omega
    · obtain rfl : k = x.nP := by omega
      go_wp2
      go_ret
      exact ⟨by rw [HM.out, HE.out]; rfl, b0⟩

set_option maxRecDepth 100000 in
set_option maxHeartbeats 3200000 in
theorem specKindsOf_any (x : RE) (w : World) (hr : RdRule w x) (hs : x.small) :
    Calls Try.prog 45 #[.agg #[.string x.nm, .int .i64 x.sal, .slice x.aP x.nP x.cP, .slice x.aC x.nC x.cC, .slice x.aA x.nA x.cA]] w fun e w' =>
      GivesS e w' w.heap.size (kindsL [] x.P) ∧ Below w.heap.size w w' := by
  obtain ⟨i0, hi, hz0, hz1, hz2⟩ := info_parts infoStr
  have b0 := below_al w (.cells #[.string x.nm, .int .i64 x.sal, .slice x.aP x.nP x.cP, .slice x.aC x.nC x.cC, .slice x.aA x.nA x.cA] 49)
  have hX := boxk_new w #[.string x.nm, .int .i64 x.sal, .slice x.aP x.nP x.cP, .slice x.aC x.nC x.cC, .slice x.aA x.nA x.cA] 49
  have hw1 : (w.alloc (.cells #[.string x.nm, .int .i64 x.sal, .slice x.aP x.nP x.cP, .slice x.aC x.nC x.cC, .slice x.aA x.nA x.cA] 49)).heap.size = w.heap.size + 1 := by simp
  have HW1 := hide hw1
  clear hw1
  have hzz : w.heap.size < (w.alloc (.cells #[.string x.nm, .int .i64 x.sal, .slice x.aP x.nP x.cP, .slice x.aC x.nC x.cC, .slice x.aA x.nA x.cA] 49)).heap.size := by simp
  obtain ⟨s1, s2, -, -⟩ := hs
  unfold RE.sz at s1
  have hn : x.nP ≤ 1048576 := by rw [← hr.np]; omega
  have HN := hide hr.np
  have HS := hide s2
  have HE : Hid (kindsL [] (x.P.take x.nP) = kindsL [] x.P) := by unfold Hid; rw [← hr.np, List.take_length]
  clear s1 s2
  go_enter Try.func45, Try.ntmps45
  go_wp2
  generalize w.alloc (.cells #[.string x.nm, .int .i64 x.sal, .slice x.aP x.nP x.cP, .slice x.aC x.nC x.cC, .slice x.aA x.nA x.cA] 49) = w1 at b0 hX hzz HW1 ⊢
  have HX := hide hX
  clear hX
  have ho0 : RowS w1 (.slice (some ⟨w.heap.size + 1, 0, none⟩) 0 0) [] (w1.alloc (.cells #[] 9)) := by
    rw [← HW1.out]
    exact ⟨World.ownsRow_lit (base := w1.heap.size) (e := 9) (size := 1) w1 #[] 0 (Nat.le_refl _) (by unfold maxLen; omega) rfl, below_al _ _⟩
  go_loopw [3, 4] (fun v i wr => ∃ (k : Nat), k ≤ x.nP ∧ i = .int .i64 k ∧ RowS w1 v (kindsL [] (x.P.take k)) wr) (fun _ i _ => x.nP - (intOf i).toNat)
  case atStart => exact ⟨0, Nat.zero_le _, rfl, ho0⟩
  case round =>
    clear ho0
    obtain ⟨k, hk, rfl, hrow⟩ := hrel
    have HRow := hide hrow
    clear hrow
    have a2 := boxk_cell (box_below HX.out HRow.out.2 hzz) 2 _ rfl
    by_cases hlt : k < x.nP
    · have hlL : k < x.P.length := by rw [HN.out]; exact hlt
      obtain ⟨b, off, hab, hbw, hc⟩ := ((hr.p.below b0).below HRow.out.2).cells (by omega)
      obtain ⟨c0, -, -, -⟩ := hc k hlL
      clear hc
      have hS := (HS.out _ (eAt_mem hlL)).1
      have hlen : (kindsL [] (x.P.take k)).length ≤ k := by
        have h1 := kindsL_len [] (x.P.take k)
        rw [List.length_take] at h1
        simp only [List.length_nil] at h1
        omega
      have HT : Hid (kindsL [] (x.P.take (k + 1)) = addS (kindsL [] (x.P.take k)) (eAt x.P k).kd) := foldl_snoc _ _ hlL
      rw [hab] at a2
      rw [hab]
      clear hab hlL
      generalize (eAt x.P k).kd = s at c0 HT hS
      generalize kindsL [] (x.P.take k) = l at HRow HT hlen
      obtain ⟨va, vc, e0, r3, -⟩ := rdS_owns HRow.out.1
      subst e0
      cases hh : hasS l s
      · rw [addS_no hh] at HT
        have H4 := hide (HRow.out.alloc (.cells #[.string s] 9))
        have HSrc := hide (srcS wr s)
        have HZ4 := H4.out.2.size
        go_wp2_with fail
        refine (l6Has_any va l.length vc l s _ rfl r3 (by omega)).mono ?_
        rintro e w3 ⟨rfl, rfl⟩
        rw [hh]
        clear HRow r3
        go_wp2_with (at_builtin; refine wpList_append_lies _ rfl (.tmp 22) (.tmp 29) 74 rfl w1.heap.size 9 i0 (.string ⟨#[]⟩) 1 16 Try.underlying74 hi hz0 hz1 hz2 rfl (by omega) (.slice va l.length vc) l.length (valsS l) rfl H4.out.1 ⟨w3.heap.size, 0, none⟩ 1 1 [.string s] ?hx rfl HSrc.out (oneS s) (by omega) (by unfold maxLen; omega) (by omega) HZ4 _ rfl ?_)
        case hx => simp [Act.eval]
        intro g5 c5 w5 ho5 hg5 hat5 hlt5
        have HF : Hid (RowS w1 (.slice (some ⟨g5, 0, none⟩) (l.length + 1) c5) (kindsL [] (x.P.take (k + 1))) w5) := by
          refine ⟨?_, H4.out.2.grown hg5 HZ4 (fun k hk => (H4.out.1.lt k hk).1)⟩
          rw [HT.out, ← valsS_snoc, List.length_append]
          exact ho5
        clear ho5 hg5 hat5 hlt5 HSrc H4 HZ4 HT
        go_wp2
        go_roundw
        case rel => exact ⟨k + 1, by omega, by go_num, HF.out⟩
        case measure => simp [intOf]; omega
      · rw [addS_yes hh] at HT
        go_wp2_with fail
        refine (l6Has_any va l.length vc l s _ rfl r3 (by omega)).mono ?_
        rintro e w3 ⟨rfl, rfl⟩
        rw [hh]
        clear r3
        go_wp2
        go_roundw
        case rel => exact ⟨k + 1, by omega, by go_num, by rw [HT.out]; exact HRow.out⟩
        case measure => simp [intOf]; omega
    · obtain rfl : k = x.nP := by omega
      rw [HE.out] at HRow
      have HF := hide (HRow.out.from b0)
      clear HRow
      go_wp2
      go_ret
      exact ⟨⟨_, rfl, HF.out.1⟩, HF.out.2⟩

set_option maxRecDepth 100000 in
set_option maxHeartbeats 6400000 in
theorem specPosVars_any (x : RE) (w : World) (hr : RdRule w x) (hs : x.small) :
    Calls Try.prog 44 #[.agg #[.string x.nm, .int .i64 x.sal, .slice x.aP x.nP x.cP, .slice x.aC x.nC x.cC, .slice x.aA x.nA x.cA]] w fun e w' =>
      GivesS e w' w.heap.size (varsB [] (posB x.P)) ∧ Below w.heap.size w w' := by
  obtain ⟨i0, hi, hz0, hz1, hz2⟩ := info_parts infoStr
  have b0 := below_al w (.cells #[.string x.nm, .int .i64 x.sal, .slice x.aP x.nP x.cP, .slice x.aC x.nC x.cC, .slice x.aA x.nA x.cA] 49)
  have hX := boxk_new w #[.string x.nm, .int .i64 x.sal, .slice x.aP x.nP x.cP, .slice x.aC x.nC x.cC, .slice x.aA x.nA x.cA] 49
  have hw1 : (w.alloc (.cells #[.string x.nm, .int .i64 x.sal, .slice x.aP x.nP x.cP, .slice x.aC x.nC x.cC, .slice x.aA x.nA x.cA] 49)).heap.size = w.heap.size + 1 := by simp
  have HW1 := hide hw1
  clear hw1
  have hzz : w.heap.size < (w.alloc (.cells #[.string x.nm, .int .i64 x.sal, .slice x.aP x.nP x.cP, .slice x.aC x.nC x.cC, .slice x.aA x.nA x.cA] 49)).heap.size := by simp
  obtain ⟨s1, s2, -, -⟩ := hs
  unfold RE.sz at s1
  have hn : x.nP ≤ 1048576 := by rw [← hr.np]; omega
  have hM : (x.P.map PE.sz).sum ≤ 1048576 := by omega
  have HM := hide hM
  have HN := hide hr.np
  have HS := hide s2
  have HE : Hid (varsB [] (posB (x.P.take x.nP)) = varsB [] (posB x.P)) := by unfold Hid; rw [← hr.np, List.take_length]
  clear s1 s2 hM
  go_enter Try.func44, Try.ntmps44
  go_wp2
  generalize w.alloc (.cells #[.string x.nm, .int .i64 x.sal, .slice x.aP x.nP x.cP, .slice x.aC x.nC x.cC, .slice x.aA x.nA x.cA] 49) = w1 at b0 hX hzz HW1 ⊢
  have HX := hide hX
  clear hX
  have ho0 : RowS w1 (.slice (some ⟨w.heap.size + 1, 0, none⟩) 0 0) [] (w1.alloc (.cells #[] 9)) := by
    rw [← HW1.out]
    exact ⟨World.ownsRow_lit (base := w1.heap.size) (e := 9) (size := 1) w1 #[] 0 (Nat.le_refl _) (by unfold maxLen; omega) rfl, below_al _ _⟩
  go_loopw [3, 4] (fun v i wr => ∃ (k : Nat), k ≤ x.nP ∧ i = .int .i64 k ∧ RowS w1 v (varsB [] (posB (x.P.take k))) wr) (fun _ i _ => x.nP - (intOf i).toNat)
  case atStart => exact ⟨0, Nat.zero_le _, rfl, ho0⟩
  case round =>
    clear ho0
    obtain ⟨wo, hwo⟩ : ∃ wo : World, wo = wr := ⟨_, rfl⟩
    subst hwo
    obtain ⟨k, hk, rfl, hrow⟩ := hrel
    have HRow := hide hrow
    clear hrow
    have a2 := boxk_cell (box_below HX.out HRow.out.2 hzz) 2 _ rfl
    by_cases hlt : k < x.nP
    · have hlL : k < x.P.length := by rw [HN.out]; exact hlt
      obtain ⟨b, off, hab, hbw, hc⟩ := ((hr.p.below b0).below HRow.out.2).cells (by omega)
      obtain ⟨c0, c1, c2, hin⟩ := hc k hlL
      clear hc
      have HIn := hide hin
      have hS := HS.out _ (eAt_mem hlL)
      have hvl : (varsL (eAt x.P k).L).length ≤ (eAt x.P k).L.length := by
        have := varsL_len (eAt x.P k).L _ (Nat.le_refl _)
        rw [List.take_length] at this; exact this
      have hlen : (varsB [] (posB (x.P.take k))).length + (eAt x.P k).L.length ≤ 1048576 := by
        have h1 := varsB_len [] (posB (x.P.take k))
        have h0 := sum_sub PE.sz (fun p => !p.nt) (x.P.take k)
        have h2 := totW_step (wt := PE.sz) hlL
        have h3 := totW_le PE.sz x.P (k + 1)
        have h4 : (eAt x.P k).sz = (eAt x.P k).kd.size + (eAt x.P k).L.length := rfl
        have h5 := HM.out
        unfold totW at h2 h3
        simp only [List.length_nil] at h1
        unfold posB at h1 ⊢
        omega
      have HT : Hid (varsB [] (posB (x.P.take (k + 1))) = if (eAt x.P k).nt = true then varsB [] (posB (x.P.take k)) else adds (varsB [] (posB (x.P.take k))) (varsL (eAt x.P k).L)) := by
        unfold Hid
        rw [posB_take hlL]
        split
        · rw [List.append_nil]
        · rw [varsF_of]; unfold varsB; rw [List.foldl_append]; rfl
      have HAb := hide hab
      rw [hab] at a2
      rw [hab]
      clear hab hlL hin
      obtain ⟨y, hy⟩ : ∃ y, y = eAt x.P k := ⟨_, rfl⟩
      rw [← hy] at c0 c1 c2 HT HIn hS hlen hvl
      obtain ⟨kd, ya, yc, L, nt⟩ := y
      have HNt : Hid ((eAt x.P k).nt = nt) := by unfold Hid; rw [← hy]
      clear hy
      simp only at c0 c1 c2 HT HIn hlen hvl
      generalize varsB [] (posB (x.P.take k)) = out at HRow HT hlen
      obtain ⟨va, vc, e0, -, -⟩ := rdS_owns HRow.out.1
      subst e0
      have hLs : L.length ≤ 1048576 := hS.2.1
      have hsep := fun q hq => (HRow.out.1.lt q hq).2
      go_wp2_with fail
      refine (specVarsOf_any kd ya yc L nt _ HIn.out hS.2.2 hLs).mono ?_
      rintro e w3 ⟨⟨v3, rfl, ho3⟩, hb3⟩
      obtain ⟨al, cl, rfl, hrl, -⟩ := rdS_owns ho3
      have HRow3 := hide (HRow.out.later hb3)
      have HL3 := hide (fun q hq => ho3.lt q hq)
      have HRl := hide hrl
      have HSep := hide hsep
      have c2' : w3.cell? ⟨b, off + k * 3 + 2, none⟩ = some (.bool nt) := by rw [hb3.cell (World.block_lt_of_cell? wo _ c2)]; exact c2
      have a2' := boxk_cell (box_below HX.out HRow3.out.2 hzz) 2 _ rfl
      clear hb3 c0 c1 c2 a2 HRow HIn hS ho3 hrl hsep
      generalize varsL L = l at HT HRl HL3 hvl
      have hll : l.length ≤ 1048576 := by omega
      cases nt
      · rw [if_neg (by simp)] at HT
        have HEl : Hid (adds out (l.take l.length) = adds out l) := by unfold Hid; rw [List.take_length]
        go_wp2
        go_loopw [3, 6] (fun v i wi => ∃ (j : Nat), j ≤ l.length ∧ i = .int .i64 j ∧ RowS w1 v (adds out (l.take j)) wi ∧ (∀ q, v.ownBlock = some q → q < wo.heap.size ∨ w3.heap.size ≤ q) ∧ w3.heap.size ≤ wi.heap.size ∧ ∀ q, wo.heap.size ≤ q → q < w3.heap.size → wi.heap[q]? = w3.heap[q]?) (fun _ i _ => l.length - (intOf i).toNat)
        case atStart => exact ⟨0, Nat.zero_le _, rfl, HRow3.out, fun q hq => .inl (HSep.out q hq), Nat.le_refl _, fun q _ _ => rfl⟩
        case round =>
          obtain ⟨j, hj, rfl, hrow, hsep, hsz, hsame⟩ := hrel
          have HRw := hide hrow
          have HSp := hide hsep
          have HSm := hide hsame
          clear hrow hsep hsame
          have d2 := boxk_cell (box_below HX.out HRw.out.2 hzz) 2 _ rfl
          rw [HAb.out] at d2
          have d3 : wr.cell? ⟨b, off + k * 3 + 2, none⟩ = some (.bool false) := by
            have hp := ((hr.p.below b0).below HRw.out.2).cells (by have := HN.out; omega)
            obtain ⟨b', off', hab', -, hc'⟩ := hp
            obtain ⟨-, -, hc2, -⟩ := hc' k (by rw [HN.out]; exact hlt)
            rw [HAb.out] at hab'
            simp only [Option.some.injEq, Addr.mk.injEq, and_true] at hab'
            rw [← hab'.1, ← hab'.2, HNt.out] at hc2
            exact hc2
          by_cases hjl : j < l.length
          · obtain ⟨va2, vc2, e0, r3, -⟩ := rdS_owns HRw.out.1
            subst e0
            obtain ⟨bl, ol, hal, hblw, hcl⟩ := HRl.out.open (by omega)
            have hcl := hcl j hjl
            have hbl : wo.heap.size ≤ bl ∧ bl < w3.heap.size := HL3.out bl (by rw [hal]; rfl)
            rw [← cell_same (w := w3) (w' := wr) (p := ⟨bl, ol + j, none⟩) (HSm.out bl hbl.1 hbl.2)] at hcl
            rw [hal]
            have HTk := hide (adds_take (l := out) hjl)
            have hal2 := adds_len out (l.take j)
            rw [List.length_take] at hal2
            generalize sAt l j = s at hcl HTk
            generalize adds out (l.take j) = o2 at HRw HTk hal2 r3 HSp
            have HAl := hide hal
            clear hal
            cases hh : hasS o2 s
            · rw [addS_no hh] at HTk
              have H4 := hide (HRw.out.alloc (.cells #[.string s] 9))
              have HSrc := hide (srcS wr s)
              have HZ4 := H4.out.2.size
              go_wp2_with fail
              refine (l6Has_any va2 o2.length vc2 o2 s _ rfl r3 (by omega)).mono ?_
              rintro e w5 ⟨rfl, rfl⟩
              rw [hh]
              clear HRw r3
              go_wp2_with (at_builtin; refine wpList_append_lies _ rfl (.tmp 43) (.tmp 48) 74 rfl w1.heap.size 9 i0 (.string ⟨#[]⟩) 1 16 Try.underlying74 hi hz0 hz1 hz2 rfl (by omega) (.slice va2 o2.length vc2) o2.length (valsS o2) rfl H4.out.1 ⟨w5.heap.size, 0, none⟩ 1 1 [.string s] ?hx rfl HSrc.out (oneS s) (by omega) (by unfold maxLen; omega) (by omega) HZ4 _ rfl ?_)
              case hx => simp [Act.eval]
              intro g5 c5 w6 ho5 hg5 hat5 hlt5
              have HF : Hid (RowS w1 (.slice (some ⟨g5, 0, none⟩) (o2.length + 1) c5) (adds out (l.take (j + 1))) w6) := by
                refine ⟨?_, H4.out.2.grown hg5 HZ4 (fun k hk => (H4.out.1.lt k hk).1)⟩
                rw [HTk.out, ← valsS_snoc, List.length_append]
                exact ho5
              have HSp2 : Hid (∀ q, (Value.slice (some ⟨g5, 0, none⟩) (o2.length + 1) c5).ownBlock = some q → q < wo.heap.size ∨ w3.heap.size ≤ q) := fun q hq => by
                simp only [Value.ownBlock, Option.some.injEq] at hq
                subst hq
                rcases hat5 with h | h
                · exact HSp.out _ h
                · have hz := (below_al w5 (.cells #[.string s] 9)).size
                  right; omega
              have hsz6 : w3.heap.size ≤ w6.heap.size := by have := hg5.size; simp at this; omega
              have HSm6 : Hid (∀ q, wo.heap.size ≤ q → q < w3.heap.size → w6.heap[q]? = w3.heap[q]?) := fun q h1 h2 => by
                rw [hg5.block q (by simp; omega) (fun e => by rcases HSp.out q e.symm with h | h <;> omega)]
                rw [← HSm.out q h1 h2]
                exact (below_al w5 _).block q (by omega)
              clear ho5 hg5 hat5 hlt5 HSrc H4 HZ4 HTk HSp HSm hsz
              go_wp2
              go_roundw
              case rel => exact ⟨j + 1, by omega, by go_num, HF.out, HSp2.out, hsz6, HSm6.out⟩
              case measure => simp [intOf]; omega
            · rw [addS_yes hh] at HTk
              go_wp2_with fail
              refine (l6Has_any va2 o2.length vc2 o2 s _ rfl r3 (by omega)).mono ?_
              rintro e w5 ⟨rfl, rfl⟩
              rw [hh]
              clear r3
              go_wp2
              go_roundw
              case rel => exact ⟨j + 1, by omega, by go_num, by rw [HTk.out]; exact HRw.out, HSp.out, hsz, HSm.out⟩
              case measure => simp [intOf]; omega
          · obtain rfl : j = l.length := by omega
            rw [HEl.out] at HRw
            go_wp2
            go_roundw
            case rel => exact ⟨k + 1, by omega, by go_num, by rw [HT.out]; exact HRw.out⟩
            case measure => simp [intOf]; omega
      · rw [if_pos rfl] at HT
        rw [HAb.out] at a2'
        by_cases h0 : 0 < l.length
        · go_wp2
          go_rounds 1
          go_roundw
          case rel => exact ⟨k + 1, by omega, by go_num, by rw [HT.out]; exact HRow3.out⟩
          case measure => simp [intOf]; omega
        · go_wp2
          go_rounds 1
          go_roundw
          case rel => exact ⟨k + 1, by omega, by go_num, by rw [HT.out]; exact HRow3.out⟩
          case measure => simp [intOf]; omega
    · obtain rfl : k = x.nP := by omega
      rw [HE.out] at HRow
      have HF := hide (HRow.out.from b0)
      clear HRow
      go_wp2
      go_ret
      exact ⟨⟨_, rfl, HF.out.1⟩, HF.out.2⟩
end Go.Proofs.Ytfgigcdfmkfkjaa
/-
  What the model's PosVars and PosCount answer of a rule on its way.
-/
namespace Go.Proofs.Ytfgigcdfmkfkjaa
open Go.RowKit
set_option linter.unusedVariables false
section
variable {w0 W W' : World} {B q b F : Nat} {cs : Array Value} {vP vC vA : Value} {P : List PE} {C : List C11} {A : List QE}
theorem posVars_W (h : RlW w0 B q b F cs vP P vC C vA A W) (nm : ByteArray) (sal : Int) (hn : nm.size ≤ 100) (lP : P.length ≤ 100) (lC : C.length ≤ 100) (lA : A.length ≤ 100) :
    Calls Try.prog 44 #[.agg #[.string nm, .int .i64 sal, vP, vC, vA]] W fun e w' => ∃ (vv : Value) (l : List ByteArray), e = .returned vv ∧ w'.ownsRow b 9 1 vv l.length (valsS l) ∧ (∀ s ∈ l, s.size ≤ 1048576) ∧ l.length ≤ 1048576 ∧ Below W.heap.size W w' := by
  obtain ⟨x, rfl, rfl, rfl, rfl, rfl, rfl, rfl, rfl, hr⟩ := h.rd nm sal
  have hs : x.small := tiny_rule hn h.sP h.sC h.sA lP lC lA
  have hl : (varsB [] (posB x.P)).length ≤ 1048576 := by
    have hsx := hs.1
    unfold RE.sz at hsx
    have hl := varsB_len [] (posB x.P)
    have h2 := sum_sub PE.sz (fun p => !p.nt) x.P
    unfold posB at hl ⊢
    simp only [List.length_nil] at hl
    omega
  refine (specPosVars_any x W hr hs).mono ?_
  rintro e w' ⟨⟨v, rfl, ow⟩, hb⟩
  exact ⟨v, _, rfl, owns_base ow h.bsz, varsB_small (fun p hp => (h.sP p hp).1), hl, hb⟩
theorem posCount_W (h : RlW w0 B q b F cs vP P vC C vA A W) (nm : ByteArray) (sal : Int) (lP : P.length ≤ 100) :
    Calls Try.prog 145 #[.agg #[.string nm, .int .i64 sal, vP, vC, vA]] W fun e w' => e = .returned (.int .i64 ((posB P).length : Int)) ∧ Below W.heap.size W w' := by
  obtain ⟨x, rfl, rfl, rfl, rfl, rfl, rfl, rfl, rfl, hr⟩ := h.rd nm sal
  exact specPosCount_any x W hr (by rw [← hr.np]; omega)
/-- a row of texts is kept too -/
theorem RlW.vars_draw {vv : Value} {l : List ByteArray} (h : RlW w0 B q b F cs vP P vC C vA A W) (o : W.ownsRow b 9 1 vv l.length (valsS l)) (g : W.grownBy W' (some q)) : W'.ownsRow b 9 1 vv l.length (valsS l) :=
  row_kept o g (fun k e => by cases e; exact own_ge o (by have := h.far; omega))
theorem RlW.vars_setF {vv : Value} {l : List ByteArray} (h : RlW w0 B q b F cs vP P vC C vA A W) (o : W.ownsRow b 9 1 vv l.length (valsS l)) (i : Nat) (v : Value) : (W.setCell ⟨F, i, none⟩ v).ownsRow b 9 1 vv l.length (valsS l) :=
  row_kept o (boxk_set h.box i v).2 (fun k e => by cases e; exact row_apart o h.box (by decide))
/-- a condition's own block is written -/
theorem RlW.condBox (h : RlW w0 B q b F cs vP P (.slice none 0 0) [] (.slice none 0 0) [] W) {X : Nat} {xs : Array Value} (hX : W.heap[X]? = some (.cells xs 162 (0, 0))) (hb : b ≤ X) (g : W.grownBy W' (some X)) :
    RlW w0 B q b F cs vP P (.slice none 0 0) [] (.slice none 0 0) [] W' := by
  have far := h.far
  have hB := h.cur.1
  refine h.kept g (h.cur.keep g (by simp; omega) (fun k e => by cases e; omega)) (grown_more h.gr g (fun k e => by cases e; omega)) (fun e => ?_) (by simp; omega) (fun k e => by cases e; exact row_apart h.rP hX (by decide)) (fun k e e2 => by cases e2) (fun k e e2 => by cases e2) (fun p hp k e => by cases e; exact row_apart (h.iP p hp) hX (by decide)) (fun a ha => by cases ha)
  simp only [Option.some.injEq] at e
  subst e
  have hF := h.box
  rw [hX] at hF
  simp only [Option.some.injEq, Obj.cells.injEq] at hF
  exact absurd hF.2.1 (by decide)
end
/-- a drawn rule's rows, and their elements' lists -/
structure RlO (base : Nat) (vP : Value) (P : List PE) (vC : Value) (C : List C11) (vA : Value) (A : List QE) (W : World) : Prop where
  rP : W.ownsRow base 79 3 vP P.length (rowOf PE.cs P)
  rC : W.ownsRow base 162 11 vC C.length (rowOf C11.cs C)
  rA : W.ownsRow base 166 5 vA A.length (rowOf QE.cs A)
  iP : ∀ p ∈ P, W.ownsRow base 157 5 (.slice p.a p.L.length p.cap) p.L.length (rowOf A5.cs p.L)
  iA : ∀ a ∈ A, W.ownsRow base 206 11 (.slice a.a a.L.length a.cap) a.L.length (rowOf X11.cs a.L)
  sP : ∀ p ∈ P, p.tiny
  sC : ∀ c ∈ C, c.small
  sA : ∀ a ∈ A, a.tiny
/-- at the end: the rule laid into the result -/
theorem RlW.done {w0 W w9 : World} {B q b F : Nat} {cs : Array Value} {vP vC vA : Value} {P : List PE} {C : List C11} {A : List QE} (h : RlW w0 B q b F cs vP P vC C vA A W) (gr : W.grownBy w9 (some w0.heap.size)) :
    RlO w0.heap.size vP P vC C vA A w9 ∧ Cur B w9 q ∧ w0.grownBy w9 (some q) := by
  have far := h.far
  have hB := h.cur.1
  refine ⟨⟨owns_base (row_kept h.rP gr (fun k e => by cases e; exact own_ge h.rP (by omega))) (by omega), owns_base (row_kept h.rC gr (fun k e => by cases e; exact own_ge h.rC (by omega))) (by omega), owns_base (row_kept h.rA gr (fun k e => by cases e; exact own_ge h.rA (by omega))) (by omega),
    fun p hp => owns_base (row_kept (h.iP p hp) gr (fun k e => by cases e; exact own_ge (h.iP p hp) (by omega))) (by omega), fun a ha => owns_base (row_kept (h.iA a ha) gr (fun k e => by cases e; exact own_ge (h.iA a ha) (by omega))) (by omega), h.sP, h.sC, h.sA⟩,
    h.cur.keep gr (by simp; omega) (fun k hk => by cases hk; omega), grown_more h.gr gr (fun k hk => by cases hk; exact Nat.le_refl _)⟩
end Go.Proofs.Ytfgigcdfmkfkjaa
/-
  The model's l9Known and l9Fit (a variable that is known in the place of one that is not).
-/
namespace Go.Proofs.Ytfgigcdfmkfkjaa
open Go.RowKit
set_option linter.unusedVariables false

def knownA (a : A5) (vs : List ByteArray) : Bool := !decide (a.K = 1) || hasS vs a.S
set_option maxRecDepth 100000 in
set_option maxHeartbeats 1600000 in
theorem l9Known_A (x : A5) (va : Option Addr) (nv cv : Nat) (l : List ByteArray) (w : World) (hz : l.length = nv) (hr : RdS w va l) (hn : nv ≤ 1048580) :
    Calls Try.prog 160 #[.agg #[.int .i64 x.K, .string x.S, .int .i64 x.V.K, .int .i64 x.V.N, .string x.V.S], .slice va nv cv] w fun e w' => e = .returned (.bool (knownA x l)) ∧ Below w.heap.size w w' := by
  obtain ⟨K, S, VK, VN, VS⟩ := x
  have HB : Hid (knownA ⟨K, S, ⟨VK, VN, VS⟩⟩ l = (!decide (K = 1) || hasS l S)) := rfl
  have b0 := below_al w (.cells #[.int .i64 K, .string S, .int .i64 VK, .int .i64 VN, .string VS] 157)
  by_cases h1 : K = 1
  · subst h1
    go_enter Try.func160, Try.ntmps160
    go_wp2_with fail
    refine (l6Has_any va nv cv l S _ hz (hr.below b0) hn).mono ?_
    rintro e w1 ⟨rfl, rfl⟩
    generalize hasS l S = bb at HB ⊢
    go_wp2
    go_ret
    exact ⟨by rw [HB.out]; rfl, b0⟩
  · have k1 : (K != 1) = true := by simpa using h1
    have HF : Hid (knownA ⟨K, S, ⟨VK, VN, VS⟩⟩ l = true) := by unfold Hid; rw [HB.out, decide_eq_false h1]; rfl
    clear h1
    go_enter Try.func160, Try.ntmps160
    go_wp2
    go_ret
    exact ⟨by rw [HF.out]; rfl, b0⟩

/-- some argument came back, that is small -/
def Fits (w : World) (e : Ending) (w' : World) : Prop := ∃ y : A5, e = .returned (.agg #[.int .i64 y.K, .string y.S, .int .i64 y.V.K, .int .i64 y.V.N, .string y.V.S]) ∧ y.small ∧ Below w.heap.size w w'
set_option maxRecDepth 100000 in
set_option maxHeartbeats 3200000 in
theorem l9Fit_any (x : A5) (va : Option Addr) (nv cv : Nat) (l : List ByteArray) (w : World) (hx : x.small) (hz : l.length = nv) (hr : RdS w va l) (hn : nv ≤ 1048580) (hl : ∀ s ∈ l, s.size ≤ 1048576) :
    Calls Try.prog 143 #[.agg #[.int .i64 x.K, .string x.S, .int .i64 x.V.K, .int .i64 x.V.N, .string x.V.S], .slice va nv cv] w (Fits w) := by
  obtain ⟨hA, hR, b0⟩ := boxes2 w #[.int .i64 x.K, .string x.S, .int .i64 x.V.K, .int .i64 x.V.N, .string x.V.S] #[.int .i64 0, .string ⟨#[]⟩, .int .i64 0, .int .i64 0, .string ⟨#[]⟩] 157 157
  have HA := hide hA
  have HR := hide hR
  clear hA hR
  have hzz : w.heap.size + 1 < ((w.alloc (.cells #[.int .i64 x.K, .string x.S, .int .i64 x.V.K, .int .i64 x.V.N, .string x.V.S] 157)).alloc (.cells #[.int .i64 0, .string ⟨#[]⟩, .int .i64 0, .int .i64 0, .string ⟨#[]⟩] 157)).heap.size := by simp
  go_enter Try.func143, Try.ntmps143
  go_wp2_with fail
  refine (l9Known_A x va nv cv l _ hz (hr.below b0) hn).mono ?_
  rintro e w1 ⟨rfl, hb⟩
  have B1 := b0.trans (hb.mono b0.size)
  have HA1 := hide (box_step HA.out hb)
  have HR1 := hide (box_step HR.out hb)
  clear hb HA HR b0
  generalize knownA x l = kn
  cases kn
  · by_cases h0 : nv = 0
    · have hn0 : ((nv : Int) == 0) = true := by simp; omega
      go_wp2_with fail
      refine (l6Val_any ⟨1, 1, ⟨#[]⟩⟩ _).mono ?_
      rintro e w2 ⟨rfl, hb⟩
      have B2 := B1.trans (hb.mono B1.size)
      have HR2 := hide (box_step HR1.out hb)
      clear hb HA1 HR1 B1 h0 hn0
      have r0 := boxk_cell HR2.out 0 _ rfl
      have r1 := boxk_cell HR2.out 1 _ rfl
      have r2 := boxk_cell HR2.out 2 _ rfl
      have r3 := boxk_cell HR2.out 3 _ rfl
      have r4 := boxk_cell HR2.out 4 _ rfl
      have f0 := boxk_frozen HR2.out 0
      have f1 := boxk_frozen HR2.out 1
      have f2 := boxk_frozen HR2.out 2
      have f3 := boxk_frozen HR2.out 3
      have f4 := boxk_frozen HR2.out 4
      go_wp2
      refine box5_post HR2.out (fun w9 h9 gr => ?_)
      clear r0 r1 r2 r3 r4 f0 f1 f2 f3 f4
      have d0 := boxk_cell h9 0 _ rfl
      have d1 := boxk_cell h9 1 _ rfl
      have d2 := boxk_cell h9 2 _ rfl
      have d3 := boxk_cell h9 3 _ rfl
      have d4 := boxk_cell h9 4 _ rfl
      exact bodyPost_ret (v := .agg #[.int .i64 2, .string ⟨#[]⟩, .int .i64 1, .int .i64 1, .string ⟨#[]⟩]) (by simp [results, Try.results143, go_sem, d0, d1, d2, d3, d4]) rfl ⟨⟨2, ⟨#[]⟩, ⟨1, 1, ⟨#[]⟩⟩⟩, rfl, ⟨emp_small, emp_small⟩, below_set B2 gr (by omega)⟩
    · have hn0 : ((nv : Int) == 0) = false := by simp; omega
      obtain ⟨b, off, hab, hbw, hc⟩ := (hr.below B1).open (by omega)
      have hc0 := hc 0 (by omega)
      rw [Nat.add_zero] at hc0
      subst hab
      have hs0 : (sAt l 0).size ≤ 1048576 := hl _ (by rw [sAt_in (by omega)]; exact List.getElem_mem _)
      generalize sAt l 0 = s at hc0 hs0
      have hpos : (0 : Int) < (nv : Int) := by omega
      go_wp2_with fail
      refine (l6Var_any s _).mono ?_
      rintro e w2 ⟨rfl, hb⟩
      have B2 := B1.trans (hb.mono B1.size)
      have HR2 := hide (box_step HR1.out hb)
      clear hb HA1 HR1 B1 h0 hn0 hc hc0
      have r0 := boxk_cell HR2.out 0 _ rfl
      have r1 := boxk_cell HR2.out 1 _ rfl
      have r2 := boxk_cell HR2.out 2 _ rfl
      have r3 := boxk_cell HR2.out 3 _ rfl
      have r4 := boxk_cell HR2.out 4 _ rfl
      have f0 := boxk_frozen HR2.out 0
      have f1 := boxk_frozen HR2.out 1
      have f2 := boxk_frozen HR2.out 2
      have f3 := boxk_frozen HR2.out 3
      have f4 := boxk_frozen HR2.out 4
      go_wp2
      refine box5_post HR2.out (fun w9 h9 gr => ?_)
      clear r0 r1 r2 r3 r4 f0 f1 f2 f3 f4
      have d0 := boxk_cell h9 0 _ rfl
      have d1 := boxk_cell h9 1 _ rfl
      have d2 := boxk_cell h9 2 _ rfl
      have d3 := boxk_cell h9 3 _ rfl
      have d4 := boxk_cell h9 4 _ rfl
      exact bodyPost_ret (v := .agg #[.int .i64 1, .string s, .int .i64 0, .int .i64 0, .string ⟨#[]⟩]) (by simp [results, Try.results143, go_sem, d0, d1, d2, d3, d4]) rfl ⟨⟨1, s, ⟨0, 0, ⟨#[]⟩⟩⟩, rfl, ⟨hs0, emp_small⟩, below_set B2 gr (by omega)⟩
  · have a0 := boxk_cell HA1.out 0 _ rfl
    have a1 := boxk_cell HA1.out 1 _ rfl
    have a2 := boxk_cell HA1.out 2 _ rfl
    have a3 := boxk_cell HA1.out 3 _ rfl
    have a4 := boxk_cell HA1.out 4 _ rfl
    have r0 := boxk_cell HR1.out 0 _ rfl
    have r1 := boxk_cell HR1.out 1 _ rfl
    have r2 := boxk_cell HR1.out 2 _ rfl
    have r3 := boxk_cell HR1.out 3 _ rfl
    have r4 := boxk_cell HR1.out 4 _ rfl
    have f0 := boxk_frozen HR1.out 0
    have f1 := boxk_frozen HR1.out 1
    have f2 := boxk_frozen HR1.out 2
    have f3 := boxk_frozen HR1.out 3
    have f4 := boxk_frozen HR1.out 4
    go_wp2
    refine box5_post HR1.out (fun w9 h9 gr => ?_)
    clear a0 a1 a2 a3 a4 r0 r1 r2 r3 r4 f0 f1 f2 f3 f4
    have d0 := boxk_cell h9 0 _ rfl
    have d1 := boxk_cell h9 1 _ rfl
    have d2 := boxk_cell h9 2 _ rfl
    have d3 := boxk_cell h9 3 _ rfl
    have d4 := boxk_cell h9 4 _ rfl
    exact bodyPost_ret (v := .agg #[.int .i64 x.K, .string x.S, .int .i64 x.V.K, .int .i64 x.V.N, .string x.V.S]) (by simp [results, Try.results143, go_sem, d0, d1, d2, d3, d4]) rfl ⟨x, rfl, hx, below_set B1 gr (by omega)⟩
end Go.Proofs.Ytfgigcdfmkfkjaa
/-
  What the tested functions answer: boundRuleOf has the patterns that are not Not, PosCount how many, PosVars their variables, KindsOf all kinds.
-/
namespace Go.Proofs.Ytfgigcdfmkfkjaa
open Go.RowKit
set_option linter.unusedVariables false

theorem infoPat : (Try.prog.info? 79).map (fun i => (i.zero, i.size, i.bytes)) = some (some (.agg #[.string ⟨#[]⟩, .slice none 0 0, .bool false]), 3, 48) := by kernel_rfl
theorem srcPE (W : World) (x : PE) : ∀ j u, (x.cs)[j]? = some u → (W.alloc (.cells #[.string x.kd, .slice x.a x.L.length x.cap, .bool x.nt] 79)).cell? ((⟨W.heap.size, 0, none⟩ : Addr).add j) = some u := by
  intro j u hj
  rw [Addr.add_lit, Nat.zero_add]
  have hb : (W.alloc (.cells #[.string x.kd, .slice x.a x.L.length x.cap, .bool x.nt] 79)).heap[W.heap.size]? = some (.cells #[.string x.kd, .slice x.a x.L.length x.cap, .bool x.nt] 79 (0, 0)) := by rw [heap_alloc_new]
  rw [cell_of_row _ _ j _ _ (0, 0) hb, ← hj]
  simp [PE.cs]
theorem onePE (x : PE) : ∀ u ∈ x.cs, u.oneCell' = true := by
  intro u hu
  simp only [PE.cs, List.mem_cons, List.not_mem_nil, or_false] at hu
  rcases hu with rfl | rfl | rfl <;> rfl
theorem box6_set {w : World} {q : Nat} {c0 c1 c2 c3 c4 c5 : Value} {T : TypeId} (h : w.heap[q]? = some (.cells #[c0, c1, c2, c3, c4, c5] T (0, 0))) (v0 v1 v2 v3 v4 v5 : Value) :
    ((((((w.setCell ⟨q, 0, none⟩ v0).setCell ⟨q, 1, none⟩ v1).setCell ⟨q, 2, none⟩ v2).setCell ⟨q, 3, none⟩ v3).setCell ⟨q, 4, none⟩ v4).setCell ⟨q, 5, none⟩ v5).heap[q]? = some (.cells #[v0, v1, v2, v3, v4, v5] T (0, 0)) ∧ w.grownBy ((((((w.setCell ⟨q, 0, none⟩ v0).setCell ⟨q, 1, none⟩ v1).setCell ⟨q, 2, none⟩ v2).setCell ⟨q, 3, none⟩ v3).setCell ⟨q, 4, none⟩ v4).setCell ⟨q, 5, none⟩ v5) (some q) := by
  have h0 := boxk_set h 0 v0
  have h1 := boxk_set h0.1 1 v1
  have h2 := boxk_set h1.1 2 v2
  have h3 := boxk_set h2.1 3 v3
  have h4 := boxk_set h3.1 4 v4
  have h5 := boxk_set h4.1 5 v5
  exact ⟨h5.1, grown_tt (grown_tt (grown_tt (grown_tt (grown_tt h0.2 h1.2) h2.2) h3.2) h4.2) h5.2⟩
theorem box6_post {P : Program} {f : Func} {Q : Ending → World → Prop} {x : Exit} {act : Act} {w : World} {q : Nat} {c0 c1 c2 c3 c4 c5 v0 v1 v2 v3 v4 v5 : Value} {T : TypeId} (h : w.heap[q]? = some (.cells #[c0, c1, c2, c3, c4, c5] T (0, 0)))
    (k : ∀ w2, w2.heap[q]? = some (.cells #[v0, v1, v2, v3, v4, v5] T (0, 0)) → w.grownBy w2 (some q) → bodyPost P f Q x act w2) : bodyPost P f Q x act ((((((w.setCell ⟨q, 0, none⟩ v0).setCell ⟨q, 1, none⟩ v1).setCell ⟨q, 2, none⟩ v2).setCell ⟨q, 3, none⟩ v3).setCell ⟨q, 4, none⟩ v4).setCell ⟨q, 5, none⟩ v5) :=
  k _ (box6_set h v0 v1 v2 v3 v4 v5).1 (box6_set h v0 v1 v2 v3 v4 v5).2
theorem field_bound (c0 : ByteArray) (c1 : Int) (a1 a2 a3 a : Option Addr) (n1 n2 n3 n k1 k2 k3 k : Nat) (w : World) : (Instr.field 99 (.agg #[.string c0, .int .i64 c1, .slice a1 n1 k1, .slice a2 n2 k2, .slice a3 n3 k3, .slice a n k]) 1).run Try.prog w = .ok (.slice a n k) w := by kernel_rfl
/-- a row of patterns at or behind a world's end, where all that was in that world is left -/
def RowP (w0 : World) (v : Value) (l : List PE) (w : World) : Prop := w.ownsRow w0.heap.size 79 3 v l.length (rowOf PE.cs l) ∧ Below w0.heap.size w0 w
theorem RowP.nil (w : World) : RowP w (.slice none 0 0) [] w := ⟨World.ownsRow_nil _ _ _ _, Below.refl _ _⟩
theorem RowP.alloc {w0 w : World} {v : Value} {l : List PE} (h : RowP w0 v l w) (o : Obj) : RowP w0 v l (w.alloc o) := ⟨h.1.alloc o, h.2.alloc h.2.size o⟩
theorem RowP.later {w0 w w' : World} {v : Value} {l : List PE} (h : RowP w0 v l w) (hb : Below w.heap.size w w') : RowP w0 v l w' := ⟨ownsRow_below' h.1 hb, h.2.trans (hb.mono h.2.size)⟩
theorem RowP.grown {w0 w w' : World} {v : Value} {l : List PE} {q : Nat} (h : RowP w0 v l w) (hg : w.grownBy w' (some q)) (hq : q < w0.heap.size) : w'.ownsRow w0.heap.size 79 3 v l.length (rowOf PE.cs l) :=
  ownsRow_sameD h.1 (fun k hk => hg.block k (h.1.lt k hk).2 (by have := (h.1.lt k hk).1; simp; omega))
/-- what it reads as, its elements' lists lying where they lay at the head -/
theorem RowP.rd {w0 w : World} {a : Option Addr} {n cap : Nat} {l : List PE} (h : RowP w0 (.slice a n cap) l w) (hi : ∀ p ∈ l, RdArg w0 p.a p.L) : RdPatS w a l ∧ l.length = n := by
  obtain ⟨a', c', e, hr, -, -⟩ := rdK_owns PE.len (by decide) h.1
  simp only [Value.slice.injEq] at e
  obtain ⟨rfl, rfl, rfl⟩ := e
  exact ⟨⟨hr, fun i hi' => (hi _ (eAt_mem hi')).below h.2⟩, rfl⟩

set_option maxRecDepth 100000 in
set_option maxHeartbeats 3200000 in
theorem boundRuleOf_any (x : RE) (w : World) (hr : RdRule w x) (hn : x.nP ≤ 1048576) :
    Calls Try.prog 59 #[.agg #[.string x.nm, .int .i64 x.sal, .slice x.aP x.nP x.cP, .slice x.aC x.nC x.cC, .slice x.aA x.nA x.cA]] w fun e w' =>
      ∃ a cap, e = .returned (.agg #[.string x.nm, .int .i64 x.sal, .slice x.aP x.nP x.cP, .slice x.aC x.nC x.cC, .slice x.aA x.nA x.cA, .slice a (posB x.P).length cap]) ∧ RdPatS w' a (posB x.P) ∧ Below w.heap.size w w' := by
  obtain ⟨i0, hi, hz0, hz1, hz2⟩ := info_parts infoPat
  have HN := hide hr.np
  have HIn : Hid (∀ p ∈ posB x.P, RdArg w p.a p.L) := fun p hp => by
    obtain ⟨i, hi, rfl⟩ := mem_eAt (List.mem_filter.1 hp).1
    exact hr.p.2 i hi
  obtain ⟨hA, hR, b1⟩ := boxes2 w #[.string x.nm, .int .i64 x.sal, .slice x.aP x.nP x.cP, .slice x.aC x.nC x.cC, .slice x.aA x.nA x.cA] #[.string ⟨#[]⟩, .int .i64 0, .slice none 0 0, .slice none 0 0, .slice none 0 0, .slice none 0 0] 49 99
  have hz : w.heap.size + 1 < ((w.alloc (.cells #[.string x.nm, .int .i64 x.sal, .slice x.aP x.nP x.cP, .slice x.aC x.nC x.cC, .slice x.aA x.nA x.cA] 49)).alloc (.cells #[.string ⟨#[]⟩, .int .i64 0, .slice none 0 0, .slice none 0 0, .slice none 0 0, .slice none 0 0] 99)).heap.size := by simp
  go_enter Try.func59, Try.ntmps59
  go_wp2
  generalize ((w.alloc (.cells #[.string x.nm, .int .i64 x.sal, .slice x.aP x.nP x.cP, .slice x.aC x.nC x.cC, .slice x.aA x.nA x.cA] 49)).alloc (.cells #[.string ⟨#[]⟩, .int .i64 0, .slice none 0 0, .slice none 0 0, .slice none 0 0, .slice none 0 0] 99)) = w1 at hA hR b1 hz ⊢
  have HA := hide hA
  have HR := hide hR
  clear hA hR
  go_loopw [3, 9] (fun v i wr => ∃ (k : Nat), k ≤ x.nP ∧ i = .int .i64 k ∧ RowP w1 v (posB (x.P.take k)) wr) (fun _ i _ => x.nP - (intOf i).toNat)
  case atStart => exact ⟨0, Nat.zero_le _, rfl, RowP.nil _⟩
  case round =>
    obtain ⟨k, hk, rfl, hrow⟩ := hrel
    have HRow := hide hrow
    obtain ⟨va, vc, e0, -, -, -⟩ := rdK_owns PE.len (by decide) hrow.1
    clear hrow
    have hB : Below w.heap.size w wr := b1.trans (HRow.out.2.mono b1.size)
    by_cases hlt : k < x.nP
    · have hlL : k < x.P.length := by rw [HN.out]; exact hlt
      obtain ⟨b, off, hab, hbw, hc⟩ := (hr.p.below hB).cells (by omega)
      obtain ⟨c0, c1, c2, -⟩ := hc k hlL
      clear hc
      have HT := hide (posB_take hlL)
      have hpl := posB_take_len x.P k
      rw [HN.out] at hpl
      subst e0
      rw [hab]
      obtain ⟨y, hy⟩ : ∃ y, y = eAt x.P k := ⟨_, rfl⟩
      rw [← hy] at c0 c1 c2 HT
      clear hy hlL hab
      generalize posB (x.P.take k) = l at HRow HT hpl ⊢
      have H3 := hide (HRow.out.alloc (.cells #[.string y.kd, .slice y.a y.L.length y.cap, .bool y.nt] 79))
      cases hnt : y.nt
      · rw [hnt] at c2 HT H3
        have H4 := hide (H3.out.alloc (.cells #[.string y.kd, .slice y.a y.L.length y.cap, .bool false] 79))
        have HSrc := hide (srcPE (wr.alloc (.cells #[.string y.kd, .slice y.a y.L.length y.cap, .bool false] 79)) y)
        rw [hnt] at HSrc
        have HZ4 := H4.out.2.size
        clear HRow hB
        go_wp2_with (at_builtin; refine wpList_append_lies _ rfl (.tmp 16) (.tmp 18) 97 rfl w1.heap.size 79 i0 (.agg #[.string ⟨#[]⟩, .slice none 0 0, .bool false]) 3 48 Try.underlying97 hi hz0 hz1 hz2 rfl (by omega) (.slice va l.length vc) l.length (rowOf PE.cs l) rfl H4.out.1 ⟨wr.heap.size + 1, 0, none⟩ 1 1 (PE.cs y) ?hx rfl (by simpa using HSrc.out) (onePE y) (by omega) (by unfold maxLen; omega) (by omega) HZ4 _ rfl ?_)
        case hx => simp [Act.eval]
        intro g5 c5 w5 ho5 hg5 hat5 hlt5
        have HF : Hid (RowP w1 (.slice (some ⟨g5, 0, none⟩) (l.length + 1) c5) (posB (x.P.take (k + 1))) w5) := by
          refine ⟨?_, H4.out.2.grown hg5 HZ4 (fun k hk => (H4.out.1.lt k hk).1)⟩
          rw [HT.out, if_neg (by simp), rowOf_append, List.length_append, rowOf_cons, show rowOf PE.cs [] = [] from rfl, List.append_nil]
          exact ho5
        clear ho5 hg5 hat5 hlt5 HSrc H4 H3 HZ4 HT
        go_wp2
        go_roundw
        case rel => exact ⟨k + 1, by omega, by go_num, HF.out⟩
        case measure => simp [intOf]; omega
      · rw [hnt] at c2 HT H3
        have HF : Hid (RowP w1 (.slice va l.length vc) (posB (x.P.take (k + 1))) (wr.alloc (.cells #[.string y.kd, .slice y.a y.L.length y.cap, .bool true] 79))) := by
          unfold Hid
          rw [HT.out, if_pos rfl, List.append_nil]
          exact H3.out
        clear HRow hB H3 HT
        go_wp2
        go_roundw
        case rel => exact ⟨k + 1, by omega, by go_num, HF.out⟩
        case measure => simp [intOf]; omega
    · obtain rfl : k = x.nP := by omega
      have HR2 := hide (box_below HR.out HRow.out.2 hz)
      have HA2 := hide (box_below HA.out HRow.out.2 (by omega))
      subst e0
      have ht : x.P.take x.nP = x.P := by rw [← HN.out, List.take_length]
      rw [ht] at HRow ⊢
      have H2 := hide (box6_set HR2.out (.string x.nm) (.int .i64 x.sal) (.slice x.aP x.nP x.cP) (.slice x.aC x.nC x.cC) (.slice x.aA x.nA x.cA) (.slice va (posB x.P).length vc))
      have a0 := boxk_cell HA2.out 0 _ rfl
      have a1 := boxk_cell HA2.out 1 _ rfl
      have a2 := boxk_cell HA2.out 2 _ rfl
      have a3 := boxk_cell HA2.out 3 _ rfl
      have a4 := boxk_cell HA2.out 4 _ rfl
      have r0 := boxk_cell HR2.out 0 _ rfl
      have r1 := boxk_cell HR2.out 1 _ rfl
      have r2 := boxk_cell HR2.out 2 _ rfl
      have r3 := boxk_cell HR2.out 3 _ rfl
      have r4 := boxk_cell HR2.out 4 _ rfl
      have r5 := boxk_cell HR2.out 5 _ rfl
      have f0 := boxk_frozen HR2.out 0
      have f1 := boxk_frozen HR2.out 1
      have f2 := boxk_frozen HR2.out 2
      have f3 := boxk_frozen HR2.out 3
      have f4 := boxk_frozen HR2.out 4
      have f5 := boxk_frozen HR2.out 5
      go_wp2
      refine box6_post HR2.out (fun w4 h4 gr => ?_)
      clear a0 a1 a2 a3 a4 r0 r1 r2 r3 r4 r5 f0 f1 f2 f3 f4 f5
      have c0 := boxk_cell h4 0 _ rfl
      have c1 := boxk_cell h4 1 _ rfl
      have c2 := boxk_cell h4 2 _ rfl
      have c3 := boxk_cell h4 3 _ rfl
      have c4 := boxk_cell h4 4 _ rfl
      have c5 := boxk_cell h4 5 _ rfl
      have ho := HRow.out.grown gr hz
      have hB4 : Below w.heap.size w w4 := below_set hB gr (by omega)
      refine bodyPost_ret (v := .agg #[.string x.nm, .int .i64 x.sal, .slice x.aP x.nP x.cP, .slice x.aC x.nC x.cC, .slice x.aA x.nA x.cA, .slice va (posB x.P).length vc]) (by simp [results, Try.results59, go_sem, c0, c1, c2, c3, c4, c5]) rfl ⟨va, vc, rfl, ?_, hB4⟩
      obtain ⟨a', c', e, hr', -, -⟩ := rdK_owns PE.len (by decide) ho
      simp only [Value.slice.injEq] at e
      rw [e.1]
      exact ⟨hr', fun i hi' => (HIn.out _ (eAt_mem hi')).below hB4⟩

set_option maxRecDepth 100000 in
set_option maxHeartbeats 3200000 in
theorem vars_any (a : Option Addr) (n cap : Nat) (J : List PE) (w : World) (hr : RdPatS w a J) (hn : J.length = n) (hs : ∀ p ∈ J, p.small) (hm : (J.map PE.sz).sum ≤ 1048576) (hl : n ≤ 1048576) :
    Calls Try.prog 80 #[.slice a n cap] w fun e w' => GivesS e w' w.heap.size (varsB [] J) ∧ Below w.heap.size w w' := by
  have HN := hide hn
  have HS := hide hs
  have HM := hide hm
  have HE : Hid (varsB [] (J.take n) = varsB [] J) := by unfold Hid; rw [← hn, List.take_length]
  clear hn hs hm
  go_enter Try.func80, Try.ntmps80
  go_wp2
  go_loopw [3, 8] (fun v i wr => ∃ (k : Nat), k ≤ n ∧ i = .int .i64 k ∧ RowS w v (varsB [] (J.take k)) wr) (fun _ i _ => n - (intOf i).toNat)
  case atStart => exact ⟨0, Nat.zero_le _, rfl, RowS.nil _⟩
  case round =>
    obtain ⟨k, hk, rfl, hrow⟩ := hrel
    have HRow := hide hrow
    clear hrow
    by_cases hlt : k < n
    · have hlL : k < J.length := by rw [HN.out]; exact hlt
      obtain ⟨b, off, hab, hbw, hc⟩ := (hr.below HRow.out.2).cells (by omega)
      obtain ⟨c0, c1, c2, -⟩ := hc k hlL
      clear hc
      have HI := hide (hr.2 k hlL)
      have HSk := hide (HS.out _ (eAt_mem hlL))
      have hlen : (varsB [] (J.take k)).length + (eAt J k).L.length ≤ 1048576 := by
        have h1 := varsB_len [] (J.take k)
        have h2 := totW_step (wt := PE.sz) hlL
        have h3 := totW_le PE.sz J (k + 1)
        have h4 : (eAt J k).sz = (eAt J k).kd.size + (eAt J k).L.length := rfl
        have h5 := HM.out
        unfold totW at h2 h3
        simp only [List.length_nil] at h1
        omega
      have HT : Hid (varsB [] (J.take (k + 1)) = varsF (varsB [] (J.take k)) (eAt J k).L) := foldl_snoc _ _ hlL
      subst hab
      obtain ⟨y, hy⟩ : ∃ y, y = eAt J k := ⟨_, rfl⟩
      rw [← hy] at c0 c1 c2 HT HI HSk hlen
      clear hy hlL
      obtain ⟨kd, ya, yc, L, nt⟩ := y
      simp only at c0 c1 c2 HT HI hlen
      generalize varsB [] (J.take k) = l at HRow HT hlen
      have H2 := HRow.out.alloc (.cells #[.string kd, .slice ya L.length yc, .bool nt] 79)
      go_wp2_with fail
      refine (withVars_any w _ l kd ya yc L nt _ H2 HI.out HSk.out.2.2 (by omega)).mono ?_
      rintro e w3 ⟨v', rfl, h3⟩
      have H3 := hide h3
      clear h3 H2 HRow c0 c1 c2
      go_wp2
      go_roundw
      case rel => exact ⟨k + 1, by omega, by go_num, by rw [HT.out]; exact H3.out⟩
      case measure => simp [intOf]; omega
    · obtain rfl : k = n := by omega
      rw [HE.out] at HRow
      go_wp2
      go_ret
      exact ⟨⟨_, rfl, HRow.out.1⟩, HRow.out.2⟩

set_option maxRecDepth 100000 in
set_option maxHeartbeats 1600000 in
theorem implPosVars_any (x : RE) (w : World) (hr : RdRule w x) (hs : x.small) :
    Calls Try.prog 39 #[.agg #[.string x.nm, .int .i64 x.sal, .slice x.aP x.nP x.cP, .slice x.aC x.nC x.cC, .slice x.aA x.nA x.cA]] w fun e w' =>
      GivesS e w' w.heap.size (varsB [] (posB x.P)) ∧ Below w.heap.size w w' := by
  have b0 := below_al w (.cells #[.string x.nm, .int .i64 x.sal, .slice x.aP x.nP x.cP, .slice x.aC x.nC x.cC, .slice x.aA x.nA x.cA] 49)
  obtain ⟨s1, s2, -, -⟩ := hs
  unfold RE.sz at s1
  have hl := posB_len x.P
  have hn : x.nP ≤ 1048576 := by rw [← hr.np]; omega
  have hsum : ((posB x.P).map PE.sz).sum ≤ 1048576 := by have := sum_sub PE.sz (fun p => !p.nt) x.P; unfold posB; omega
  have hl2 : (posB x.P).length ≤ 1048576 := by omega
  have HS : Hid (∀ p ∈ posB x.P, p.small) := fun p hp => s2 p (List.mem_filter.1 hp).1
  clear s1 s2
  go_enter Try.func39, Try.ntmps39
  go_wp2_with fail
  refine (boundRuleOf_any x _ (hr.below b0) hn).mono ?_
  rintro e w1 ⟨a, cap, rfl, hrd, hb⟩
  have hB : Below w.heap.size w w1 := b0.trans (hb.mono b0.size)
  have hsz := hB.size
  clear hb b0 hl
  obtain ⟨n, hnn⟩ : ∃ n, n = (posB x.P).length := ⟨_, rfl⟩
  rw [← hnn] at hl2 ⊢
  have HNN := hide hnn
  clear hnn
  have hf := field_bound x.nm x.sal x.aP x.aC x.aA a x.nP x.nC x.nA n x.cP x.cC x.cA cap w1
  go_wp2_with fail
  refine (vars_any a n cap (posB x.P) _ hrd HNN.out.symm HS.out hsum hl2).mono ?_
  rintro e w2 ⟨⟨v, rfl, ho⟩, hb⟩
  have HF : Hid (w2.ownsRow w.heap.size 9 1 v (varsB [] (posB x.P)).length (valsS (varsB [] (posB x.P))) ∧ Below w.heap.size w w2) := ⟨ownsRow_lowS ho hsz, hB.trans (hb.mono hsz)⟩
  clear ho hb hB
  go_wp2
  go_ret
  exact ⟨⟨_, rfl, HF.out.1⟩, HF.out.2⟩

set_option maxRecDepth 100000 in
set_option maxHeartbeats 3200000 in
theorem implKindsOf_any (x : RE) (w : World) (hr : RdRule w x) (hs : x.small) :
    Calls Try.prog 40 #[.agg #[.string x.nm, .int .i64 x.sal, .slice x.aP x.nP x.cP, .slice x.aC x.nC x.cC, .slice x.aA x.nA x.cA]] w fun e w' =>
      GivesS e w' w.heap.size (kindsL [] x.P) ∧ Below w.heap.size w w' := by
  have b0 := below_al w (.cells #[.string x.nm, .int .i64 x.sal, .slice x.aP x.nP x.cP, .slice x.aC x.nC x.cC, .slice x.aA x.nA x.cA] 49)
  obtain ⟨s1, s2, -, -⟩ := hs
  unfold RE.sz at s1
  have hn : x.nP ≤ 1048576 := by rw [← hr.np]; omega
  have HN := hide hr.np
  have HS := hide s2
  have HE : Hid (kindsL [] (x.P.take x.nP) = kindsL [] x.P) := by unfold Hid; rw [← hr.np, List.take_length]
  clear s1 s2
  go_enter Try.func40, Try.ntmps40
  go_wp2
  generalize w.alloc (.cells #[.string x.nm, .int .i64 x.sal, .slice x.aP x.nP x.cP, .slice x.aC x.nC x.cC, .slice x.aA x.nA x.cA] 49) = w1 at b0 ⊢
  go_loopw [3, 9] (fun v i wr => ∃ (k : Nat), k ≤ x.nP ∧ i = .int .i64 k ∧ RowS w1 v (kindsL [] (x.P.take k)) wr) (fun _ i _ => x.nP - (intOf i).toNat)
  case atStart => exact ⟨0, Nat.zero_le _, rfl, RowS.nil _⟩
  case round =>
    obtain ⟨k, hk, rfl, hrow⟩ := hrel
    have HRow := hide hrow
    clear hrow
    by_cases hlt : k < x.nP
    · have hlL : k < x.P.length := by rw [HN.out]; exact hlt
      obtain ⟨b, off, hab, hbw, hc⟩ := ((hr.p.below b0).below HRow.out.2).cells (by omega)
      obtain ⟨c0, c1, c2, -⟩ := hc k hlL
      clear hc
      have hS := (HS.out _ (eAt_mem hlL)).1
      have hlen : (kindsL [] (x.P.take k)).length ≤ k := by
        have h1 := kindsL_len [] (x.P.take k)
        rw [List.length_take] at h1
        simp only [List.length_nil] at h1
        omega
      have HT : Hid (kindsL [] (x.P.take (k + 1)) = addS (kindsL [] (x.P.take k)) (eAt x.P k).kd) := foldl_snoc _ _ hlL
      rw [hab]
      obtain ⟨y, hy⟩ : ∃ y, y = eAt x.P k := ⟨_, rfl⟩
      rw [← hy] at c0 c1 c2 HT hS
      clear hy hlL hab
      generalize kindsL [] (x.P.take k) = l at HRow HT hlen
      have H2 := HRow.out.alloc (.cells #[.string y.kd, .slice y.a y.L.length y.cap, .bool y.nt] 79)
      go_wp2_with fail
      refine (withText_any w1 _ l y.kd _ H2 (by omega) (by omega)).mono ?_
      rintro e w3 ⟨v', rfl, h3⟩
      have H3 := hide h3
      clear h3 H2 HRow c0 c1 c2
      go_wp2
      go_roundw
      case rel => exact ⟨k + 1, by omega, by go_num, by rw [HT.out]; exact H3.out⟩
      case measure => simp [intOf]; omega
    · obtain rfl : k = x.nP := by omega
      rw [HE.out] at HRow
      have HF := hide (HRow.out.from b0)
      clear HRow
      go_wp2
      go_ret
      exact ⟨⟨_, rfl, HF.out.1⟩, HF.out.2⟩
end Go.Proofs.Ytfgigcdfmkfkjaa
/-
  The contracts of the laws' own helpers on rows of Exprs: to copies, sz counts off, eq finds a row the same as itself.
-/
namespace Go.Proofs.Ytfgigcdfmkfkjaa
open Go.RowKit
set_option linter.unusedVariables false

set_option maxRecDepth 100000 in
set_option maxHeartbeats 3200000 in
theorem toExprS_at (a : Option Addr) (cap : Nat) (L : List X11) (w : World) (hr : RdExpr w a L) (hn : L.length ≤ 1048576) :
    Calls Try.prog 128 #[.slice a L.length cap] w fun e w' =>
      e = .returned (.slice (some ⟨w.heap.size, 0, none⟩) L.length L.length) ∧ w'.ownsRow w.heap.size 206 11 (.slice (some ⟨w.heap.size, 0, none⟩) L.length L.length) L.length (rowOf X11.cs L) ∧ Below w.heap.size w w' := by
  obtain ⟨i0, hi, hz0, hz1, hz2⟩ := info_parts Try.info206
  obtain ⟨n, hN⟩ : ∃ n, n = L.length := ⟨_, rfl⟩
  rw [← hN] at hn ⊢
  have HN := hide hN
  clear hN
  have hmade := rowOf_made (f := X11.cs) (x := X11.zero) (cs := #[.string ⟨#[]⟩, .int .i64 0, .string ⟨#[]⟩, .int .i64 0, .int .i64 0, .string ⟨#[]⟩, .int .i64 0, .string ⟨#[]⟩, .int .i64 0, .int .i64 0, .string ⟨#[]⟩]) rfl (by decide) n
  go_enter Try.func128, Try.ntmps128
  go_wp2_with (at_make; refine wpList_make_full _ rfl _ _ 164 rfl w.heap.size 206 i0 (.agg #[.string ⟨#[]⟩, .int .i64 0, .string ⟨#[]⟩, .int .i64 0, .int .i64 0, .string ⟨#[]⟩, .int .i64 0, .string ⟨#[]⟩, .int .i64 0, .int .i64 0, .string ⟨#[]⟩]) 11 Try.underlying164 hi hz0 hz1 _ _ _ _ n rfl rfl (by omega) (by omega) ?b2 ?b3 (Nat.le_refl _) ?_)
  case b2 => rw [hz2]; omega
  case b3 => unfold maxLen; omega
  intro w0 hown0 hgrow0
  have hown0' : w0.ownsRow w.heap.size 206 11 (.slice (some ⟨w.heap.size, 0, none⟩) n n) n (rowOf X11.cs (List.replicate n X11.zero)) := by rw [← hmade]; exact hown0
  clear hown0 hmade
  go_wp2
  go_loopw [4] (fun i wr => ∃ k : Nat, k ≤ n ∧ i = .int .i64 k ∧ wr.ownsRow w.heap.size 206 11 (.slice (some ⟨w.heap.size, 0, none⟩) n n) n (rowOf X11.cs (partK L X11.zero k)) ∧ Below w.heap.size w wr)
    (fun i _ => n - (intOf i).toNat)
  case atStart =>
    refine ⟨0, Nat.zero_le _, rfl, ?_, (Below.refl _ _).grown hgrow0 (Nat.le_refl _) (fun k h => by cases h)⟩
    rw [partK_zero, ← HN.out]
    exact hown0'
  case round =>
    obtain ⟨k, hk, rfl, hown, hbel⟩ := hrel
    by_cases hlt : k < n
    · obtain ⟨b, off, hab, hbw, hc⟩ := RdExpr.cells hr (by rw [← HN.out]; omega)
      obtain ⟨c0, c1, c2, c3, c4, c5, c6, c7, c8, c9, c10⟩ := hc k (by rw [← HN.out]; exact hlt)
      clear hc
      subst hab
      rw [← hbel.cell (p := ⟨b, off + k * 11, none⟩) hbw] at c0
      rw [← hbel.cell (p := ⟨b, off + k * 11 + 1, none⟩) hbw] at c1
      rw [← hbel.cell (p := ⟨b, off + k * 11 + 2, none⟩) hbw] at c2
      rw [← hbel.cell (p := ⟨b, off + k * 11 + 3, none⟩) hbw] at c3
      rw [← hbel.cell (p := ⟨b, off + k * 11 + 4, none⟩) hbw] at c4
      rw [← hbel.cell (p := ⟨b, off + k * 11 + 5, none⟩) hbw] at c5
      rw [← hbel.cell (p := ⟨b, off + k * 11 + 6, none⟩) hbw] at c6
      rw [← hbel.cell (p := ⟨b, off + k * 11 + 7, none⟩) hbw] at c7
      rw [← hbel.cell (p := ⟨b, off + k * 11 + 8, none⟩) hbw] at c8
      rw [← hbel.cell (p := ⟨b, off + k * 11 + 9, none⟩) hbw] at c9
      rw [← hbel.cell (p := ⟨b, off + k * 11 + 10, none⟩) hbw] at c10
      go_wp2_with fail
      refine (toExpr_any _ _ _ _ _ _ _ _ _ _ _ _).mono ?_
      rintro e w2 ⟨rfl, hb2⟩
      have hown2 : w2.ownsRow w.heap.size 206 11 (.slice (some ⟨w.heap.size, 0, none⟩) n n) n (rowOf X11.cs (partK L X11.zero k)) := ownsRow_below' hown hb2
      have hbel2 : Below w.heap.size w w2 := hbel.trans (hb2.mono hbel.size)
      have hlen : (rowOf X11.cs (partK L X11.zero k)).length = n * 11 := by rw [rowOf_length X11.len, partK_length (by rw [← HN.out]; omega), ← HN.out]
      have hmem : ∀ j, j < 11 → ∃ u, w2.cell? ⟨w.heap.size, k * 11 + j, none⟩ = some u := fun j hj => by
        rw [hown2.cellAt (k * 11 + j) (by omega), List.getElem?_eq_getElem (by omega)]
        exact ⟨_, rfl⟩
      obtain ⟨u0, m0⟩ := hmem 0 (by omega)
      obtain ⟨u1, m1⟩ := hmem 1 (by omega)
      obtain ⟨u2, m2⟩ := hmem 2 (by omega)
      obtain ⟨u3, m3⟩ := hmem 3 (by omega)
      obtain ⟨u4, m4⟩ := hmem 4 (by omega)
      obtain ⟨u5, m5⟩ := hmem 5 (by omega)
      obtain ⟨u6, m6⟩ := hmem 6 (by omega)
      obtain ⟨u7, m7⟩ := hmem 7 (by omega)
      obtain ⟨u8, m8⟩ := hmem 8 (by omega)
      obtain ⟨u9, m9⟩ := hmem 9 (by omega)
      obtain ⟨u10, m10⟩ := hmem 10 (by omega)
      rw [Nat.add_zero] at m0
      have f0 := hown2.frozenAt (k * 11)
      have f1 := hown2.frozenAt (k * 11 + 1)
      have f2 := hown2.frozenAt (k * 11 + 2)
      have f3 := hown2.frozenAt (k * 11 + 3)
      have f4 := hown2.frozenAt (k * 11 + 4)
      have f5 := hown2.frozenAt (k * 11 + 5)
      have f6 := hown2.frozenAt (k * 11 + 6)
      have f7 := hown2.frozenAt (k * 11 + 7)
      have f8 := hown2.frozenAt (k * 11 + 8)
      have f9 := hown2.frozenAt (k * 11 + 9)
      have f10 := hown2.frozenAt (k * 11 + 10)
      have HO := hide (((((((((((hown2.stored (k * 11) (.string (eAt L k).Op)).1.stored (k * 11 + 1) (.int .i64 (eAt L k).L.K)).1.stored (k * 11 + 2) (.string (eAt L k).L.S)).1.stored (k * 11 + 3) (.int .i64 (eAt L k).L.V.K)).1.stored (k * 11 + 4) (.int .i64 (eAt L k).L.V.N)).1.stored (k * 11 + 5) (.string (eAt L k).L.V.S)).1.stored (k * 11 + 6) (.int .i64 (eAt L k).R.K)).1.stored (k * 11 + 7) (.string (eAt L k).R.S)).1.stored (k * 11 + 8) (.int .i64 (eAt L k).R.V.K)).1.stored (k * 11 + 9) (.int .i64 (eAt L k).R.V.N)).1.stored (k * 11 + 10) (.string (eAt L k).R.V.S)).1
      have HB : Hid (Below w.heap.size w (((((((((((w2.setCell ⟨w.heap.size, k * 11, none⟩ (.string (eAt L k).Op)).setCell ⟨w.heap.size, k * 11 + 1, none⟩ (.int .i64 (eAt L k).L.K)).setCell ⟨w.heap.size, k * 11 + 2, none⟩ (.string (eAt L k).L.S)).setCell ⟨w.heap.size, k * 11 + 3, none⟩ (.int .i64 (eAt L k).L.V.K)).setCell ⟨w.heap.size, k * 11 + 4, none⟩ (.int .i64 (eAt L k).L.V.N)).setCell ⟨w.heap.size, k * 11 + 5, none⟩ (.string (eAt L k).L.V.S)).setCell ⟨w.heap.size, k * 11 + 6, none⟩ (.int .i64 (eAt L k).R.K)).setCell ⟨w.heap.size, k * 11 + 7, none⟩ (.string (eAt L k).R.S)).setCell ⟨w.heap.size, k * 11 + 8, none⟩ (.int .i64 (eAt L k).R.V.K)).setCell ⟨w.heap.size, k * 11 + 9, none⟩ (.int .i64 (eAt L k).R.V.N)).setCell ⟨w.heap.size, k * 11 + 10, none⟩ (.string (eAt L k).R.V.S))) := (((((((((((hbel2.setCell (Nat.le_refl _) _).setCell (Nat.le_refl _) _).setCell (Nat.le_refl _) _).setCell (Nat.le_refl _) _).setCell (Nat.le_refl _) _).setCell (Nat.le_refl _) _).setCell (Nat.le_refl _) _).setCell (Nat.le_refl _) _).setCell (Nat.le_refl _) _).setCell (Nat.le_refl _) _).setCell (Nat.le_refl _) _)
      rw [rowOf_set_X11 (eAt L k) _ k (by rw [partK_length (by rw [← HN.out]; omega), ← HN.out]; exact hlt), partK_set (by rw [← HN.out]; exact hlt)] at HO
      clear hmem hlen c0 c1 c2 c3 c4 c5 c6 c7 c8 c9 c10 hown hbel hb2 hown2 hbel2
      go_wp2
      go_roundw
      case rel => exact ⟨k + 1, by omega, by go_num, HO.out, HB.out⟩
      case measure => simp [intOf]; omega
    · have HE : Hid (wr.ownsRow w.heap.size 206 11 (.slice (some ⟨w.heap.size, 0, none⟩) n n) n (rowOf X11.cs L)) := by
        have hkn : k = L.length := by rw [← HN.out]; omega
        rw [hkn, partK_end] at hown
        exact hown
      clear hown
      go_wp2
      go_ret
      exact ⟨rfl, HE.out, hbel⟩

set_option maxRecDepth 100000 in
set_option maxHeartbeats 1600000 in
theorem szExprS_any (a : Option Addr) (cap : Nat) (L : List X11) (left : Int) (w : World) (hr : RdExpr w a L) (hs : ∀ x ∈ L, x.fits) (hm : L.length ≤ maxLen) (h0 : 0 ≤ left) (h1 : left ≤ 1048576) :
    Calls Try.prog 124 #[.slice a L.length cap, .int .i64 left] w fun e w' =>
      (∃ r, e = .returned (.int .i64 r) ∧ (r = -1 ∨ (0 ≤ r ∧ r + (L.length : Int) ≤ left ∧ ∀ x ∈ L, x.small))) ∧ Below w.heap.size w w' := by
  unfold maxLen at hm
  obtain ⟨n, hN⟩ : ∃ n, n = L.length := ⟨_, rfl⟩
  rw [← hN] at hm ⊢
  have HN := hide hN
  have HS := hide hs
  clear hN hs
  by_cases h2 : left - (n : Int) < 0
  · go_enter Try.func124, Try.ntmps124
    go_wp2
    go_ret
    exact ⟨⟨-1, rfl, .inl rfl⟩, Below.refl _ _⟩
  · go_enter Try.func124, Try.ntmps124
    go_wp2
    go_loopw [1, 5] (fun l i wr => ∃ (k : Nat) (lf : Int), k ≤ n ∧ i = .int .i64 k ∧ l = .int .i64 lf ∧ 0 ≤ lf ∧ lf ≤ left - n ∧ (∀ j, j < k → (eAt L j).small) ∧ Below w.heap.size w wr) (fun _ i _ => n - (intOf i).toNat)
    case atStart => exact ⟨0, left - n, Nat.zero_le _, rfl, rfl, by omega, Int.le_refl _, fun j hj => absurd hj (Nat.not_lt_zero _), Below.refl _ _⟩
    case round =>
      obtain ⟨k, lf, hk, rfl, rfl, hlf, hle, hsm, hbel⟩ := hrel
      have HSm := hide hsm
      clear hsm
      by_cases hlt : k < n
      · obtain ⟨b, off, hab, hbw, hc⟩ := RdExpr.cells hr (by rw [← HN.out]; omega)
        obtain ⟨c0, c1, c2, c3, c4, c5, c6, c7, c8, c9, c10⟩ := hc k (by rw [← HN.out]; exact hlt)
        clear hc
        subst hab
        rw [← hbel.cell (p := ⟨b, off + k * 11, none⟩) hbw] at c0
        rw [← hbel.cell (p := ⟨b, off + k * 11 + 1, none⟩) hbw] at c1
        rw [← hbel.cell (p := ⟨b, off + k * 11 + 2, none⟩) hbw] at c2
        rw [← hbel.cell (p := ⟨b, off + k * 11 + 3, none⟩) hbw] at c3
        rw [← hbel.cell (p := ⟨b, off + k * 11 + 4, none⟩) hbw] at c4
        rw [← hbel.cell (p := ⟨b, off + k * 11 + 5, none⟩) hbw] at c5
        rw [← hbel.cell (p := ⟨b, off + k * 11 + 6, none⟩) hbw] at c6
        rw [← hbel.cell (p := ⟨b, off + k * 11 + 7, none⟩) hbw] at c7
        rw [← hbel.cell (p := ⟨b, off + k * 11 + 8, none⟩) hbw] at c8
        rw [← hbel.cell (p := ⟨b, off + k * 11 + 9, none⟩) hbw] at c9
        rw [← hbel.cell (p := ⟨b, off + k * 11 + 10, none⟩) hbw] at c10
        have hS : (eAt L k).fits := by rw [eAt_in (by rw [← HN.out]; exact hlt)]; exact HS.out _ (List.getElem_mem _)
        obtain ⟨hSo, ⟨hS0, hS1⟩, hS2, hS3⟩ := hS
        go_wp2_with fail
        refine (szExpr_any _ _ _ _ _ _ _ _ _ _ _ lf _ hSo hS0 hS1 hS2 hS3 hlf (by omega)).mono ?_
        rintro e w2 ⟨⟨r, rfl, hr2⟩, hb2⟩
        have hbel2 : Below w.heap.size w w2 := hbel.trans (hb2.mono hbel.size)
        clear hb2 c0 c1 c2 c3 c4 c5 c6 c7 c8 c9 c10 hbel
        rcases hr2 with rfl | ⟨h3, h4⟩
        · go_wp2
          go_ret
          exact ⟨⟨-1, rfl, .inl rfl⟩, hbel2⟩
        · have HSk : Hid ((eAt L k).small) := ⟨by omega, ⟨by omega, by omega⟩, by omega, by omega⟩
          have h5 : r ≤ lf := by omega
          clear h4
          go_wp2
          go_roundw
          case rel => exact ⟨k + 1, r, by omega, by go_num, rfl, h3, by omega, fun j hj => by
              by_cases hjk : j = k
              · rw [hjk]; exact HSk.out
              · exact HSm.out j (by omega), hbel2⟩
          case measure => simp [intOf]; omega
      · have HAll : Hid (∀ x ∈ L, x.small) := fun x hx => by
          obtain ⟨j, hj, rfl⟩ := List.getElem_of_mem hx
          rw [← eAt_in hj]
          exact HSm.out j (by rw [← HN.out] at hj; omega)
        go_wp2
        go_ret
        exact ⟨⟨lf, rfl, .inr ⟨hlf, by omega, HAll.out⟩⟩, hbel⟩

theorem toExprS_ex (a : Option Addr) (cap : Nat) (L : List X11) (w : World) (hr : RdExpr w a L) (hn : L.length ≤ 1048576) :
    Calls Try.prog 128 #[.slice a L.length cap] w fun e w' =>
      ∃ g, e = .returned (.slice (some ⟨g, 0, none⟩) L.length L.length) ∧ w.heap.size ≤ g ∧ OwnExpr w' g L.length L ∧ Below w.heap.size w w' :=
  (toExprS_at a cap L w hr hn).mono fun e w' h => ⟨w.heap.size, h.1, Nat.le_refl _, OwnK.of X11.len (by decide) h.2.1, h.2.2⟩

theorem keepExpr {w0 W w' : World} {B : Nat} {p0 p1 p2 p3 p4 p5 p6 p7 p8 p9 p10 p11 p12 p13 p14 p15 p16 p17 p18 p19 p20 p21 : Addr} {v0 v1 v2 v3 v4 v5 v6 v7 v8 v9 v10 v11 v12 v13 v14 v15 v16 v17 v18 v19 v20 v21 : Value} (hb : Below W.heap.size W w')
    (h : W.cell? p0 = some v0 ∧ W.cell? p1 = some v1 ∧ W.cell? p2 = some v2 ∧ W.cell? p3 = some v3 ∧ W.cell? p4 = some v4 ∧ W.cell? p5 = some v5 ∧ W.cell? p6 = some v6 ∧ W.cell? p7 = some v7 ∧ W.cell? p8 = some v8 ∧ W.cell? p9 = some v9 ∧ W.cell? p10 = some v10 ∧ W.cell? p11 = some v11 ∧ W.cell? p12 = some v12 ∧ W.cell? p13 = some v13 ∧ W.cell? p14 = some v14 ∧ W.cell? p15 = some v15 ∧ W.cell? p16 = some v16 ∧ W.cell? p17 = some v17 ∧ W.cell? p18 = some v18 ∧ W.cell? p19 = some v19 ∧ W.cell? p20 = some v20 ∧ W.cell? p21 = some v21 ∧ Below B w0 W ∧ B ≤ W.heap.size) :
    w'.cell? p0 = some v0 ∧ w'.cell? p1 = some v1 ∧ w'.cell? p2 = some v2 ∧ w'.cell? p3 = some v3 ∧ w'.cell? p4 = some v4 ∧ w'.cell? p5 = some v5 ∧ w'.cell? p6 = some v6 ∧ w'.cell? p7 = some v7 ∧ w'.cell? p8 = some v8 ∧ w'.cell? p9 = some v9 ∧ w'.cell? p10 = some v10 ∧ w'.cell? p11 = some v11 ∧ w'.cell? p12 = some v12 ∧ w'.cell? p13 = some v13 ∧ w'.cell? p14 = some v14 ∧ w'.cell? p15 = some v15 ∧ w'.cell? p16 = some v16 ∧ w'.cell? p17 = some v17 ∧ w'.cell? p18 = some v18 ∧ w'.cell? p19 = some v19 ∧ w'.cell? p20 = some v20 ∧ w'.cell? p21 = some v21 ∧ Below B w0 w' ∧ B ≤ w'.heap.size := by
  obtain ⟨q0, q1, q2, q3, q4, q5, q6, q7, q8, q9, q10, q11, q12, q13, q14, q15, q16, q17, q18, q19, q20, q21, h6, h7⟩ := h
  have k : ∀ {a : Addr} {v : Value}, W.cell? a = some v → w'.cell? a = some v := fun {a v} h => by rw [hb.cell (World.block_lt_of_cell? W _ h)]; exact h
  exact ⟨k q0, k q1, k q2, k q3, k q4, k q5, k q6, k q7, k q8, k q9, k q10, k q11, k q12, k q13, k q14, k q15, k q16, k q17, k q18, k q19, k q20, k q21, h6.trans (hb.mono h7), Nat.le_trans h7 hb.size⟩
set_option maxRecDepth 100000 in
set_option maxHeartbeats 3200000 in
theorem eqExprS_same (a b : Option Addr) (ca cb : Nat) (L : List X11) (w : World) (hr : RdExpr w a L) (hq : RdExpr w b L) (hm : L.length ≤ 2097152) :
    Calls Try.prog 137 #[.slice a L.length ca, .slice b L.length cb] w fun e w' =>
      e = .returned (.bool true) ∧ Below w.heap.size w w' := by
  obtain ⟨n, hN⟩ : ∃ n, n = L.length := ⟨_, rfl⟩
  rw [← hN] at hm ⊢
  have HN := hide hN
  clear hN
  have hnn : ((n : Int) != (n : Int)) = false := by simp
  go_enter Try.func137, Try.ntmps137
  go_wp2
  go_loopw [5] (fun i wr => ∃ (k : Nat), k ≤ n ∧ i = .int .i64 k ∧ Below w.heap.size w wr) (fun i _ => n - (intOf i).toNat)
  case atStart => exact ⟨0, Nat.zero_le _, rfl, Below.refl _ _⟩
  case round =>
    obtain ⟨k, hk, rfl, hbel⟩ := hrel
    by_cases hlt : k < n
    · obtain ⟨b1, o1, e1, hbw1, hc1⟩ := RdExpr.cells hr (by rw [← HN.out]; omega)
      obtain ⟨b2, o2, e2, hbw2, hc2⟩ := RdExpr.cells hq (by rw [← HN.out]; omega)
      obtain ⟨c0, c1, c2, c3, c4, c5, c6, c7, c8, c9, c10⟩ := hc1 k (by rw [← HN.out]; exact hlt)
      obtain ⟨d0, d1, d2, d3, d4, d5, d6, d7, d8, d9, d10⟩ := hc2 k (by rw [← HN.out]; exact hlt)
      clear hc1 hc2
      subst e1 e2
      rw [← hbel.cell (p := ⟨b1, o1 + k * 11, none⟩) hbw1] at c0
      rw [← hbel.cell (p := ⟨b2, o2 + k * 11, none⟩) hbw2] at d0
      rw [← hbel.cell (p := ⟨b1, o1 + k * 11 + 1, none⟩) hbw1] at c1
      rw [← hbel.cell (p := ⟨b2, o2 + k * 11 + 1, none⟩) hbw2] at d1
      rw [← hbel.cell (p := ⟨b1, o1 + k * 11 + 2, none⟩) hbw1] at c2
      rw [← hbel.cell (p := ⟨b2, o2 + k * 11 + 2, none⟩) hbw2] at d2
      rw [← hbel.cell (p := ⟨b1, o1 + k * 11 + 3, none⟩) hbw1] at c3
      rw [← hbel.cell (p := ⟨b2, o2 + k * 11 + 3, none⟩) hbw2] at d3
      rw [← hbel.cell (p := ⟨b1, o1 + k * 11 + 4, none⟩) hbw1] at c4
      rw [← hbel.cell (p := ⟨b2, o2 + k * 11 + 4, none⟩) hbw2] at d4
      rw [← hbel.cell (p := ⟨b1, o1 + k * 11 + 5, none⟩) hbw1] at c5
      rw [← hbel.cell (p := ⟨b2, o2 + k * 11 + 5, none⟩) hbw2] at d5
      rw [← hbel.cell (p := ⟨b1, o1 + k * 11 + 6, none⟩) hbw1] at c6
      rw [← hbel.cell (p := ⟨b2, o2 + k * 11 + 6, none⟩) hbw2] at d6
      rw [← hbel.cell (p := ⟨b1, o1 + k * 11 + 7, none⟩) hbw1] at c7
      rw [← hbel.cell (p := ⟨b2, o2 + k * 11 + 7, none⟩) hbw2] at d7
      rw [← hbel.cell (p := ⟨b1, o1 + k * 11 + 8, none⟩) hbw1] at c8
      rw [← hbel.cell (p := ⟨b2, o2 + k * 11 + 8, none⟩) hbw2] at d8
      rw [← hbel.cell (p := ⟨b1, o1 + k * 11 + 9, none⟩) hbw1] at c9
      rw [← hbel.cell (p := ⟨b2, o2 + k * 11 + 9, none⟩) hbw2] at d9
      rw [← hbel.cell (p := ⟨b1, o1 + k * 11 + 10, none⟩) hbw1] at c10
      rw [← hbel.cell (p := ⟨b2, o2 + k * 11 + 10, none⟩) hbw2] at d10
      generalize (eAt L k).Op = Op at c0 d0
      generalize (eAt L k).L.K = LK at c1 d1
      generalize (eAt L k).L.S = LS at c2 d2
      generalize (eAt L k).L.V.K = LVK at c3 d3
      generalize (eAt L k).L.V.N = LVN at c4 d4
      generalize (eAt L k).L.V.S = LVS at c5 d5
      generalize (eAt L k).R.K = RK at c6 d6
      generalize (eAt L k).R.S = RS at c7 d7
      generalize (eAt L k).R.V.K = RVK at c8 d8
      generalize (eAt L k).R.V.N = RVN at c9 d9
      generalize (eAt L k).R.V.S = RVS at c10 d10
      go_wp2_with fail
      go_region_held3 (fun W => W.cell? ⟨b1, o1 + k * 11, none⟩ = some (.string Op) ∧ W.cell? ⟨b1, o1 + k * 11 + 1, none⟩ = some (.int .i64 LK) ∧ W.cell? ⟨b1, o1 + k * 11 + 2, none⟩ = some (.string LS) ∧ W.cell? ⟨b1, o1 + k * 11 + 3, none⟩ = some (.int .i64 LVK) ∧ W.cell? ⟨b1, o1 + k * 11 + 4, none⟩ = some (.int .i64 LVN) ∧ W.cell? ⟨b1, o1 + k * 11 + 5, none⟩ = some (.string LVS) ∧ W.cell? ⟨b1, o1 + k * 11 + 6, none⟩ = some (.int .i64 RK) ∧ W.cell? ⟨b1, o1 + k * 11 + 7, none⟩ = some (.string RS) ∧ W.cell? ⟨b1, o1 + k * 11 + 8, none⟩ = some (.int .i64 RVK) ∧ W.cell? ⟨b1, o1 + k * 11 + 9, none⟩ = some (.int .i64 RVN) ∧ W.cell? ⟨b1, o1 + k * 11 + 10, none⟩ = some (.string RVS) ∧ W.cell? ⟨b2, o2 + k * 11, none⟩ = some (.string Op) ∧ W.cell? ⟨b2, o2 + k * 11 + 1, none⟩ = some (.int .i64 LK) ∧ W.cell? ⟨b2, o2 + k * 11 + 2, none⟩ = some (.string LS) ∧ W.cell? ⟨b2, o2 + k * 11 + 3, none⟩ = some (.int .i64 LVK) ∧ W.cell? ⟨b2, o2 + k * 11 + 4, none⟩ = some (.int .i64 LVN) ∧ W.cell? ⟨b2, o2 + k * 11 + 5, none⟩ = some (.string LVS) ∧ W.cell? ⟨b2, o2 + k * 11 + 6, none⟩ = some (.int .i64 RK) ∧ W.cell? ⟨b2, o2 + k * 11 + 7, none⟩ = some (.string RS) ∧ W.cell? ⟨b2, o2 + k * 11 + 8, none⟩ = some (.int .i64 RVK) ∧ W.cell? ⟨b2, o2 + k * 11 + 9, none⟩ = some (.int .i64 RVN) ∧ W.cell? ⟨b2, o2 + k * 11 + 10, none⟩ = some (.string RVS) ∧ Below w.heap.size w W ∧ w.heap.size ≤ W.heap.size) (first | exact ⟨c0, c1, c2, c3, c4, c5, c6, c7, c8, c9, c10, d0, d1, d2, d3, d4, d5, d6, d7, d8, d9, d10, hbel.drew, hbel.size⟩ | exact keepExpr (by assumption) (by assumption))
        (first | (go_at_call 155; refine (eqExpr_same _ _ _ _ _ _ _ _ _ _ _ _).mono ?_; rintro e w2 ⟨rfl, hb⟩))
      all_goals
        obtain ⟨-, -, -, -, -, -, -, -, -, -, -, -, -, -, -, -, -, -, -, -, -, -, hB2, -⟩ : w2.cell? ⟨b1, o1 + k * 11, none⟩ = some (.string Op) ∧ w2.cell? ⟨b1, o1 + k * 11 + 1, none⟩ = some (.int .i64 LK) ∧ w2.cell? ⟨b1, o1 + k * 11 + 2, none⟩ = some (.string LS) ∧ w2.cell? ⟨b1, o1 + k * 11 + 3, none⟩ = some (.int .i64 LVK) ∧ w2.cell? ⟨b1, o1 + k * 11 + 4, none⟩ = some (.int .i64 LVN) ∧ w2.cell? ⟨b1, o1 + k * 11 + 5, none⟩ = some (.string LVS) ∧ w2.cell? ⟨b1, o1 + k * 11 + 6, none⟩ = some (.int .i64 RK) ∧ w2.cell? ⟨b1, o1 + k * 11 + 7, none⟩ = some (.string RS) ∧ w2.cell? ⟨b1, o1 + k * 11 + 8, none⟩ = some (.int .i64 RVK) ∧ w2.cell? ⟨b1, o1 + k * 11 + 9, none⟩ = some (.int .i64 RVN) ∧ w2.cell? ⟨b1, o1 + k * 11 + 10, none⟩ = some (.string RVS) ∧ w2.cell? ⟨b2, o2 + k * 11, none⟩ = some (.string Op) ∧ w2.cell? ⟨b2, o2 + k * 11 + 1, none⟩ = some (.int .i64 LK) ∧ w2.cell? ⟨b2, o2 + k * 11 + 2, none⟩ = some (.string LS) ∧ w2.cell? ⟨b2, o2 + k * 11 + 3, none⟩ = some (.int .i64 LVK) ∧ w2.cell? ⟨b2, o2 + k * 11 + 4, none⟩ = some (.int .i64 LVN) ∧ w2.cell? ⟨b2, o2 + k * 11 + 5, none⟩ = some (.string LVS) ∧ w2.cell? ⟨b2, o2 + k * 11 + 6, none⟩ = some (.int .i64 RK) ∧ w2.cell? ⟨b2, o2 + k * 11 + 7, none⟩ = some (.string RS) ∧ w2.cell? ⟨b2, o2 + k * 11 + 8, none⟩ = some (.int .i64 RVK) ∧ w2.cell? ⟨b2, o2 + k * 11 + 9, none⟩ = some (.int .i64 RVN) ∧ w2.cell? ⟨b2, o2 + k * 11 + 10, none⟩ = some (.string RVS) ∧ Below w.heap.size w w2 ∧ w.heap.size ≤ w2.heap.size := by assumption
        go_wp2
        go_roundw
        case rel => exact ⟨k + 1, by omega, by go_num, hB2⟩
        case measure => simp [intOf]; omega
    · go_wp2
      go_ret
      exact ⟨rfl, hbel⟩
end Go.Proofs.Ytfgigcdfmkfkjaa
/-
  The contracts of the laws' own helpers on acts: toAct copies, szAct counts off, eqAct finds an act the same as itself.
-/
namespace Go.Proofs.Ytfgigcdfmkfkjaa
open Go.RowKit
set_option linter.unusedVariables false

set_option maxRecDepth 100000 in
set_option maxHeartbeats 3200000 in
theorem toAct_any (K : Int) (nm : ByteArray) (a : Option Addr) (cap : Nat) (L : List X11) (N : Int) (un : ByteArray) (w : World) (hr : RdExpr w a L) (hn : L.length ≤ 1048576) :
    Calls Try.prog 96 #[.agg #[.int .i64 K, .string nm, .slice a L.length cap, .int .i64 N, .string un]] w fun e w' =>
      ∃ g, e = .returned (.agg #[.int .i64 K, .string nm, .slice (some ⟨g, 0, none⟩) L.length L.length, .int .i64 N, .string un]) ∧ w.heap.size ≤ g ∧ OwnExpr w' g L.length L ∧ Below w.heap.size w w' := by
  go_enter Try.func96, Try.ntmps96
  go_wp2_with fail
  obtain ⟨hA, hR, hX, b2⟩ := boxes3 w #[.int .i64 K, .string nm, .slice a L.length cap, .int .i64 N, .string un] #[.int .i64 0, .string ⟨#[]⟩, .slice none 0 0, .int .i64 0, .string ⟨#[]⟩] #[.int .i64 K, .string nm, .slice none 0 0, .int .i64 0, .string ⟨#[]⟩] 148 166 166
  refine (toExprS_at a cap L _ (hr.below b2) hn).mono ?_
  rintro e w1 ⟨rfl, ho, hb⟩
  have HA := hide (box_below hA hb (by simp; omega))
  have HR := hide (box_below hR hb (by simp))
  have HX := hide (box_below hX hb (by simp))
  have hB : Below w.heap.size w w1 := b2.trans (hb.mono b2.size)
  have hO : OwnExpr w1 _ _ L := OwnK.of X11.len (by decide) ho
  clear ho hb hR hX hA b2
  simp only [World.size_alloc] at hO ⊢
  have p3 := boxk_cell HA.out 3 _ rfl
  have p4 := boxk_cell HA.out 4 _ rfl
  have x0 := boxk_cell HX.out 0 _ rfl
  have x1 := boxk_cell HX.out 1 _ rfl
  have x2 := boxk_cell HX.out 2 _ rfl
  have x3 := boxk_cell HX.out 3 _ rfl
  have x4 := boxk_cell HX.out 4 _ rfl
  have xf2 := boxk_frozen HX.out 2
  have xf3 := boxk_frozen HX.out 3
  have xf4 := boxk_frozen HX.out 4
  have r0 := boxk_cell HR.out 0 _ rfl
  have r1 := boxk_cell HR.out 1 _ rfl
  have r2 := boxk_cell HR.out 2 _ rfl
  have r3 := boxk_cell HR.out 3 _ rfl
  have r4 := boxk_cell HR.out 4 _ rfl
  have rf0 := boxk_frozen HR.out 0
  have rf1 := boxk_frozen HR.out 1
  have rf2 := boxk_frozen HR.out 2
  have rf3 := boxk_frozen HR.out 3
  have rf4 := boxk_frozen HR.out 4
  have HX2 := hide (boxk_set HX.out 2 (.slice (some ⟨w.heap.size + 1 + 1 + 1, 0, none⟩) L.length L.length))
  have HX3 := hide (boxk_set HX2.out.1 3 (.int .i64 N))
  have HX4 := hide (boxk_set HX3.out.1 4 (.string un))
  have HR2 := hide (box_gr (box_gr (box_gr HR.out HX2.out.2 (by omega)) HX3.out.2 (by omega)) HX4.out.2 (by omega))
  have HB2 := hide (below_set (below_set (below_set hB HX2.out.2 (by omega)) HX3.out.2 (by omega)) HX4.out.2 (by omega))
  have hz := hO.lt
  have HO2 := hide (((hO.grown HX2.out.2 (by omega)).grown HX3.out.2 (by omega)).grown HX4.out.2 (by omega))
  clear hO hB
  go_wp2
  refine box5_post HR2.out (fun w4 h4 gr => ?_)
  clear x0 x1 x2 x3 x4 xf2 xf3 xf4 r0 r1 r2 r3 r4 rf0 rf1 rf2 rf3 rf4 p3 p4
  have c0 := boxk_cell h4 0 _ rfl
  have c1 := boxk_cell h4 1 _ rfl
  have c2 := boxk_cell h4 2 _ rfl
  have c3 := boxk_cell h4 3 _ rfl
  have c4 := boxk_cell h4 4 _ rfl
  exact bodyPost_ret (v := .agg #[.int .i64 K, .string nm, .slice (some ⟨w.heap.size + 1 + 1 + 1, 0, none⟩) L.length L.length, .int .i64 N, .string un]) (by simp [results, Try.results96, go_sem, c0, c1, c2, c3, c4]) rfl
    ⟨_, rfl, by omega, HO2.out.grown gr (by omega), below_set HB2.out gr (by omega)⟩

set_option maxRecDepth 100000 in
set_option maxHeartbeats 1600000 in
theorem szAct_any (K : Int) (nm : ByteArray) (a : Option Addr) (cap : Nat) (L : List X11) (N : Int) (un : ByteArray) (left : Int) (w : World) (hkd : nm.size ≤ maxLen) (hun : un.size ≤ maxLen) (hr : RdExpr w a L) (hs : ∀ x ∈ L, x.fits) (hm : L.length ≤ maxLen) (h0 : 0 ≤ left) (h1 : left ≤ 1048576) :
    Calls Try.prog 90 #[.agg #[.int .i64 K, .string nm, .slice a L.length cap, .int .i64 N, .string un], .int .i64 left] w fun e w' =>
      (∃ r, e = .returned (.int .i64 r) ∧ (r = -1 ∨ (0 ≤ r ∧ r + (nm.size : Int) + (L.length : Int) + (un.size : Int) ≤ left ∧ ∀ x ∈ L, x.small))) ∧ Below w.heap.size w w' := by
  unfold maxLen at hkd hun
  by_cases h2 : left - (nm.size : Int) < 0
  · go_enter Try.func90, Try.ntmps90
    go_wp2
    go_ret
    exact ⟨⟨-1, rfl, .inl rfl⟩, by go_grown⟩
  · have b0 := below_al w (.cells #[.int .i64 K, .string nm, .slice a L.length cap, .int .i64 N, .string un] 148)
    have hA := boxk_new w #[.int .i64 K, .string nm, .slice a L.length cap, .int .i64 N, .string un] 148
    go_enter Try.func90, Try.ntmps90
    go_wp2_with fail
    refine (szExprS_any a cap L (left - nm.size) _ (hr.below b0) hs hm (by omega) (by omega)).mono ?_
    rintro e w1 ⟨⟨r, rfl, hr1⟩, hb1⟩
    have hB1 : Below w.heap.size w w1 := b0.trans (hb1.mono b0.size)
    have HA1 := hide (box_step hA hb1)
    clear hb1 b0 hA
    rcases hr1 with rfl | ⟨hr2, hr3, hsm⟩
    · go_wp2
      go_ret
      exact ⟨⟨-1, rfl, .inl rfl⟩, hB1⟩
    · have HSm := hide hsm
      clear hsm
      have a4 := boxk_cell HA1.out 4 _ rfl
      by_cases h3 : r - (un.size : Int) < 0
      · go_wp2
        go_ret
        exact ⟨⟨-1, rfl, .inl rfl⟩, hB1⟩
      · go_wp2
        go_ret
        exact ⟨⟨r - un.size, rfl, .inr ⟨by omega, by omega, HSm.out⟩⟩, hB1⟩

set_option maxRecDepth 100000 in
set_option maxHeartbeats 1600000 in
theorem eqAct_same (K : Int) (nm : ByteArray) (a b : Option Addr) (ca cb : Nat) (L : List X11) (N : Int) (un : ByteArray) (w : World) (hr : RdExpr w a L) (hq : RdExpr w b L) (hn : L.length ≤ 1048580) :
    Calls Try.prog 106 #[.agg #[.int .i64 K, .string nm, .slice a L.length ca, .int .i64 N, .string un], .agg #[.int .i64 K, .string nm, .slice b L.length cb, .int .i64 N, .string un]] w fun e w' =>
      e = .returned (.bool true) ∧ Below w.heap.size w w' := by
  have k0 : (K != K) = false := by simp
  have k1 : (nm.toList == nm.toList) = true := by simp
  have k2 : (N != N) = false := by simp
  have k3 : (un.toList == un.toList) = true := by simp
  go_enter Try.func106, Try.ntmps106
  go_wp2_with fail
  obtain ⟨hP, hQ, b1⟩ := boxes2 w #[.int .i64 K, .string nm, .slice a L.length ca, .int .i64 N, .string un] #[.int .i64 K, .string nm, .slice b L.length cb, .int .i64 N, .string un] 166 166
  refine (eqExprS_same a b ca cb L _ (hr.below b1) (hq.below b1) (by omega)).mono ?_
  rintro e w1 ⟨rfl, hb⟩
  have hB : Below w.heap.size w w1 := b1.trans (hb.mono b1.size)
  have p3 := boxk_cell (box_step hP hb) 3 _ rfl
  have q3 := boxk_cell (box_step hQ hb) 3 _ rfl
  have p4 := boxk_cell (box_step hP hb) 4 _ rfl
  have q4 := boxk_cell (box_step hQ hb) 4 _ rfl
  clear hP hQ hb
  go_wp2
  go_ret
  exact ⟨rfl, hB⟩
/-- what two lists of terms read as, on the way -/
def TwoX (w0 : World) (B : Nat) (a b : Option Addr) (L : List X11) (W : World) : Prop := RdExpr W a L ∧ RdExpr W b L ∧ Below B w0 W ∧ B ≤ W.heap.size
theorem TwoX.keep {w0 W w' : World} {B : Nat} {a b : Option Addr} {L : List X11} (h : TwoX w0 B a b L W) (hb : Below W.heap.size W w') : TwoX w0 B a b L w' :=
  ⟨h.1.below hb, h.2.1.below hb, h.2.2.1.trans (hb.mono h.2.2.2), Nat.le_trans h.2.2.2 hb.size⟩
theorem TwoX.drew {w0 W : World} {B : Nat} {a b : Option Addr} {L : List X11} (h : TwoX w0 B a b L W) : TwoX w0 B a b L W.drew :=
  ⟨h.1.heap rfl, h.2.1.heap rfl, h.2.2.1.drew, h.2.2.2⟩
theorem keepX {w0 W w' : World} {B : Nat} {p0 p1 p2 p3 p4 p5 p6 p7 p8 p9 : Addr} {v0 v1 v2 v3 v4 v5 v6 v7 v8 v9 : Value} {a b : Option Addr} {L : List X11} (hb : Below W.heap.size W w')
    (h : W.cell? p0 = some v0 ∧ W.cell? p1 = some v1 ∧ W.cell? p2 = some v2 ∧ W.cell? p3 = some v3 ∧ W.cell? p4 = some v4 ∧ W.cell? p5 = some v5 ∧ W.cell? p6 = some v6 ∧ W.cell? p7 = some v7 ∧ W.cell? p8 = some v8 ∧ W.cell? p9 = some v9 ∧ TwoX w0 B a b L W) :
    w'.cell? p0 = some v0 ∧ w'.cell? p1 = some v1 ∧ w'.cell? p2 = some v2 ∧ w'.cell? p3 = some v3 ∧ w'.cell? p4 = some v4 ∧ w'.cell? p5 = some v5 ∧ w'.cell? p6 = some v6 ∧ w'.cell? p7 = some v7 ∧ w'.cell? p8 = some v8 ∧ w'.cell? p9 = some v9 ∧ TwoX w0 B a b L w' := by
  obtain ⟨h0, h1, h2, h3, h4, h5, h6, h7, h8, h9, h10⟩ := h
  have k : ∀ {a : Addr} {v : Value}, W.cell? a = some v → w'.cell? a = some v := fun {a v} h => by rw [hb.cell (World.block_lt_of_cell? W _ h)]; exact h
  exact ⟨k h0, k h1, k h2, k h3, k h4, k h5, k h6, k h7, k h8, k h9, h10.keep hb⟩
theorem rdXA {w0 W : World} {B : Nat} {p0 p1 p2 p3 p4 p5 p6 p7 p8 p9 : Addr} {v0 v1 v2 v3 v4 v5 v6 v7 v8 v9 : Value} {a b : Option Addr} {L : List X11}
    (h : W.cell? p0 = some v0 ∧ W.cell? p1 = some v1 ∧ W.cell? p2 = some v2 ∧ W.cell? p3 = some v3 ∧ W.cell? p4 = some v4 ∧ W.cell? p5 = some v5 ∧ W.cell? p6 = some v6 ∧ W.cell? p7 = some v7 ∧ W.cell? p8 = some v8 ∧ W.cell? p9 = some v9 ∧ TwoX w0 B a b L W) : RdExpr W a L := h.2.2.2.2.2.2.2.2.2.2.1
theorem rdXB {w0 W : World} {B : Nat} {p0 p1 p2 p3 p4 p5 p6 p7 p8 p9 : Addr} {v0 v1 v2 v3 v4 v5 v6 v7 v8 v9 : Value} {a b : Option Addr} {L : List X11}
    (h : W.cell? p0 = some v0 ∧ W.cell? p1 = some v1 ∧ W.cell? p2 = some v2 ∧ W.cell? p3 = some v3 ∧ W.cell? p4 = some v4 ∧ W.cell? p5 = some v5 ∧ W.cell? p6 = some v6 ∧ W.cell? p7 = some v7 ∧ W.cell? p8 = some v8 ∧ W.cell? p9 = some v9 ∧ TwoX w0 B a b L W) : RdExpr W b L := h.2.2.2.2.2.2.2.2.2.2.2.1
end Go.Proofs.Ytfgigcdfmkfkjaa
/-
  An act being drawn, its list of terms in a row of its own.
-/
namespace Go.Proofs.Ytfgigcdfmkfkjaa
open Go.RowKit
set_option linter.unusedVariables false

structure DrwT (w0 : World) (B q b F : Nat) (K : Int) (nm : ByteArray) (v : Value) (L : List X11) (N : Int) (un : ByteArray) (W : World) : Prop where
  cur : Cur B W q
  box : W.heap[F]? = some (.cells #[.int .i64 K, .string nm, v, .int .i64 N, .string un] 166 (0, 0))
  row : W.ownsRow b 206 11 v L.length (rowOf X11.cs L)
  rne : v.ownBlock ≠ some F
  gr : w0.grownBy W (some q)
  far : q < w0.heap.size ∧ w0.heap.size < b ∧ w0.heap.size < F
  res : W.heap[w0.heap.size]? = some (.cells #[.int .i64 0, .string ⟨#[]⟩, .slice none 0 0, .int .i64 0, .string ⟨#[]⟩] 166 (0, 0))
  small : ∀ v ∈ L, v.small
  sn : nm.size ≤ 100
  su : un.size ≤ 100
  bsz : b ≤ W.heap.size
theorem DrwT.lt {w0 W : World} {B q b F : Nat} {K : Int} {nm : ByteArray} {v : Value} {L : List X11} {N : Int} {un : ByteArray} (h : DrwT w0 B q b F K nm v L N un W) : F < W.heap.size := (Array.getElem?_eq_some_iff.1 h.box).1
theorem DrwT.ne {w0 W : World} {B q b F : Nat} {K : Int} {nm : ByteArray} {v : Value} {L : List X11} {N : Int} {un : ByteArray} (h : DrwT w0 B q b F K nm v L N un W) {k : Nat} (hk : k ≤ w0.heap.size) : v.ownBlock ≠ some k := fun e => by have := (h.row.lt k e).1; have := h.far; omega
theorem DrwT.drew {w0 W : World} {B q b F : Nat} {K : Int} {nm : ByteArray} {v : Value} {L : List X11} {N : Int} {un : ByteArray} (h : DrwT w0 B q b F K nm v L N un W) : DrwT w0 B q b F K nm v L N un W.drew :=
  ⟨h.cur, h.box, h.row, h.rne, ⟨h.gr.os, h.gr.tape, h.gr.output, h.gr.size, h.gr.block⟩, h.far, h.res, h.small, h.sn, h.su, h.bsz⟩
theorem DrwT.draws {w0 W W' : World} {B q b F : Nat} {K : Int} {nm : ByteArray} {v : Value} {L : List X11} {N : Int} {un : ByteArray} (h : DrwT w0 B q b F K nm v L N un W) (c : Cur B W' q) (g : W.grownBy W' (some q)) : DrwT w0 B q b F K nm v L N un W' :=
  ⟨c, box_grown h.box g (by have := h.far; omega), h.row.kept g (.inr (h.ne (by have := h.far; omega))), h.rne, grown_trans h.gr g, h.far, box_grown h.res g (by have := h.far; omega), h.small, h.sn, h.su, Nat.le_trans h.bsz g.size⟩
theorem DrwT.alloc {w0 W : World} {B q b F : Nat} {K : Int} {nm : ByteArray} {v : Value} {L : List X11} {N : Int} {un : ByteArray} (h : DrwT w0 B q b F K nm v L N un W) (o : Obj) : DrwT w0 B q b F K nm v L N un (W.alloc o) :=
  ⟨h.cur.keep (World.grownBy_alloc W o none) (by simp) (by simp), box_alloc h.box o, h.row.alloc o, h.rne, grown_trans h.gr (grown_alloc W o q), h.far, box_alloc h.res o, h.small, h.sn, h.su, Nat.le_trans h.bsz (World.grownBy_alloc W o none).size⟩
theorem DrwT.kind {w0 W : World} {B q b F : Nat} {K : Int} {nm : ByteArray} {v : Value} {L : List X11} {N : Int} {un : ByteArray} (h : DrwT w0 B q b F K nm v L N un W) (K' : Int)  : DrwT w0 B q b F K' nm v L N un (W.setCell ⟨F, 0, none⟩ (.int .i64 K')) := by
  obtain ⟨hb, gr⟩ := boxk_set h.box 0 (.int .i64 K')
  have o := h.far
  have hc := h.cur.1
  exact ⟨h.cur.keep gr (by simp; omega) (fun k hk => by cases hk; omega), hb, h.row.kept gr (.inr h.rne), h.rne, grown_more h.gr gr (fun k hk => by cases hk; omega), o, box_grown h.res gr (by omega), h.small, h.sn, h.su, Nat.le_trans h.bsz gr.size⟩
theorem DrwT.name {w0 W : World} {B q b F : Nat} {K : Int} {nm : ByteArray} {v : Value} {L : List X11} {N : Int} {un : ByteArray} (h : DrwT w0 B q b F K nm v L N un W) (nm' : ByteArray) (hs : nm'.size ≤ 100) : DrwT w0 B q b F K nm' v L N un (W.setCell ⟨F, 1, none⟩ (.string nm')) := by
  obtain ⟨hb, gr⟩ := boxk_set h.box 1 (.string nm')
  have o := h.far
  have hc := h.cur.1
  exact ⟨h.cur.keep gr (by simp; omega) (fun k hk => by cases hk; omega), hb, h.row.kept gr (.inr h.rne), h.rne, grown_more h.gr gr (fun k hk => by cases hk; omega), o, box_grown h.res gr (by omega), h.small, hs, h.su, Nat.le_trans h.bsz gr.size⟩
theorem DrwT.num {w0 W : World} {B q b F : Nat} {K : Int} {nm : ByteArray} {v : Value} {L : List X11} {N : Int} {un : ByteArray} (h : DrwT w0 B q b F K nm v L N un W) (N' : Int)  : DrwT w0 B q b F K nm v L N' un (W.setCell ⟨F, 3, none⟩ (.int .i64 N')) := by
  obtain ⟨hb, gr⟩ := boxk_set h.box 3 (.int .i64 N')
  have o := h.far
  have hc := h.cur.1
  exact ⟨h.cur.keep gr (by simp; omega) (fun k hk => by cases hk; omega), hb, h.row.kept gr (.inr h.rne), h.rne, grown_more h.gr gr (fun k hk => by cases hk; omega), o, box_grown h.res gr (by omega), h.small, h.sn, h.su, Nat.le_trans h.bsz gr.size⟩
theorem DrwT.undo {w0 W : World} {B q b F : Nat} {K : Int} {nm : ByteArray} {v : Value} {L : List X11} {N : Int} {un : ByteArray} (h : DrwT w0 B q b F K nm v L N un W) (un' : ByteArray) (hs : un'.size ≤ 100) : DrwT w0 B q b F K nm v L N un' (W.setCell ⟨F, 4, none⟩ (.string un')) := by
  obtain ⟨hb, gr⟩ := boxk_set h.box 4 (.string un')
  have o := h.far
  have hc := h.cur.1
  exact ⟨h.cur.keep gr (by simp; omega) (fun k hk => by cases hk; omega), hb, h.row.kept gr (.inr h.rne), h.rne, grown_more h.gr gr (fun k hk => by cases hk; omega), o, box_grown h.res gr (by omega), h.small, h.sn, hs, Nat.le_trans h.bsz gr.size⟩
/-- a term appended, and the row stored into the act -/
theorem DrwT.grew {w0 W W' : World} {B q b F : Nat} {K : Int} {nm : ByteArray} {v : Value} {L : List X11} {N : Int} {un : ByteArray} {g cap H : Nat} {u : X11} (h : DrwT w0 B q b F K nm v L N un W) (hu : u.small)
    (ho : W'.ownsRow b 206 11 (.slice (some ⟨g, 0, none⟩) (L.length + 1) cap) (L.length + 1) (rowOf X11.cs L ++ u.cs)) (hg : W.grownBy W' v.ownBlock) (hat : v.ownBlock = some g ∨ g = H) (hH : W.heap.size = H) :
    W'.cell? ⟨F, 2, none⟩ = some v ∧ W'.frozen? ⟨F, 2, none⟩ = false ∧ DrwT w0 B q b F K nm (.slice (some ⟨g, 0, none⟩) (L.length + 1) cap) (L ++ [u]) N un (W'.setCell ⟨F, 2, none⟩ (.slice (some ⟨g, 0, none⟩) (L.length + 1) cap)) := by
  have hF := h.lt
  have o := h.far
  have hc := h.cur.1
  have hgF : g ≠ F := by
    rcases hat with e | e
    · exact fun e2 => h.rne (by rw [e, e2])
    · omega
  have hb : W'.heap[F]? = some (.cells #[.int .i64 K, .string nm, v, .int .i64 N, .string un] 166 (0, 0)) := by rw [hg.block F hF (fun e => h.rne e.symm)]; exact h.box
  have c2 := boxk_cell hb 2 _ rfl
  have f2 := boxk_frozen hb 2
  obtain ⟨hb2, gr2⟩ := boxk_set hb 2 (.slice (some ⟨g, 0, none⟩) (L.length + 1) cap)
  have hres : W'.heap[w0.heap.size]? = some (.cells #[.int .i64 0, .string ⟨#[]⟩, .slice none 0 0, .int .i64 0, .string ⟨#[]⟩] 166 (0, 0)) := by rw [hg.block _ (Array.getElem?_eq_some_iff.1 h.res).1 (fun e => h.ne (Nat.le_refl _) e.symm)]; exact h.res
  refine ⟨c2, f2, ?_, hb2, ?_, by simp [Value.ownBlock]; exact hgF, ?_, o, box_grown hres gr2 (by omega), ?_, h.sn, h.su, Nat.le_trans h.bsz (Nat.le_trans hg.size gr2.size)⟩
  · refine (h.cur.keep hg (h.ne (by omega)) (fun k hk => ?_)).keep gr2 (by simp; omega) (fun k hk => by cases hk; omega)
    have := (h.row.lt k hk).1
    omega
  · have := ho.kept gr2 (.inr (by simp [Value.ownBlock]; exact hgF))
    rw [show rowOf X11.cs L ++ u.cs = rowOf X11.cs (L ++ [u]) by rw [rowOf_append]; simp [rowOf]] at this
    rw [List.length_append]
    exact this
  · refine grown_more (grown_more h.gr hg (fun k hk => ?_)) gr2 (fun k hk => by cases hk; omega)
    have := (h.row.lt k hk).1
    omega
  · intro x hx
    rcases List.mem_append.1 hx with hx | hx
    · exact h.small x hx
    · simp only [List.mem_cons, List.not_mem_nil, or_false] at hx
      rw [hx]; exact hu
theorem DrwT.slice {w0 W : World} {B q b F : Nat} {K : Int} {nm : ByteArray} {v : Value} {L : List X11} {N : Int} {un : ByteArray} (h : DrwT w0 B q b F K nm v L N un W) : ∃ a c, v = .slice a L.length c := by
  rcases h.row.2 with ⟨h, h0⟩ | ⟨g, cp, _, h, _⟩
  · exact ⟨_, 0, by rw [h0]; exact h⟩
  · exact ⟨_, _, h⟩
/-- some act was drawn, of at most m terms -/
def DrawnT (w : World) (B q m : Nat) (e : Ending) (w' : World) : Prop := ∃ (K : Int) (nm : ByteArray) (v : Value) (L : List X11) (N : Int) (un : ByteArray), e = .returned (.agg #[.int .i64 K, .string nm, v, .int .i64 N, .string un]) ∧ L.length ≤ m ∧ nm.size ≤ 100 ∧ un.size ≤ 100 ∧ (∀ x ∈ L, x.small) ∧ w'.ownsRow w.heap.size 206 11 v L.length (rowOf X11.cs L) ∧ Cur B w' q ∧ w.grownBy w' (some q)
/-- at the end: the act laid into the result -/
theorem DrwT.done {m : Nat} {w0 W : World} {B q b F : Nat} {K : Int} {nm : ByteArray} {v : Value} {L : List X11} {N : Int} {un : ByteArray} (h : DrwT w0 B q b F K nm v L N un W) (hL : L.length ≤ m) {w9 : World} (gr : W.grownBy w9 (some w0.heap.size)) : DrawnT w0 B q m (.returned (.agg #[.int .i64 K, .string nm, v, .int .i64 N, .string un])) w9 := by
  have far := h.far
  have hc := h.cur.1
  exact ⟨K, nm, v, L, N, un, rfl, hL, h.sn, h.su, h.small, owns_base (h.row.kept gr (.inr (h.ne (Nat.le_refl _)))) (by omega), h.cur.keep gr (by simp; omega) (fun k hk => by cases hk; omega), grown_more h.gr gr (fun k hk => by cases hk; exact Nat.le_refl _)⟩
end Go.Proofs.Ytfgigcdfmkfkjaa
